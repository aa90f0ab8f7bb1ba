
/- The frame of port's tied cards: what the rows' listed variables give (PV, RV); a wrap that keeps the world's shape and the row's condition. -/
import Derived.Test.YtmgaibpdpcancaaDoorRows
import Derived.Test.YtmgaibpdpcancaaDoorW
import Derived.Test.YtmgaibpdpcancaaDoorT1
import Derived.HandedShaped
import Derived.LaidMore
import Derived.Lay
import Derived.SevenTiedAt
namespace Go.Proofs.YtmgaibpdpcancaaDoor
open Go.ChangeShapes Go.WideShapes Go.ChangeAt Go.RowKit
set_option maxRecDepth 100000
set_option linter.unusedVariables false

theorem returnsInHanded_and_shaped {H : Type} {enc : TypeId × Value → H} {a : Assume} {C : Checked} {os : Os} {f : FuncId} {fn : Func} {s : ChangeSpec} {conds : List PathCond} {apart fresh handsOn again : Bool} {X : World → Array Value → Prop}
    (hX : ∀ (w w' : World) (args : Array Value), w.heap = w'.heap → X w args → X w' args)
    (own : ownKnob C.prog.godebug = none) (started : os.Started) (noInit : C.prog.inits.idxOf? f = none) (hfn : C.prog.funcs[f]? = some fn)
    (witness : ∃ (w : World) (tape : Tape) (i : Input), w.os = os ∧ (w.forCall tape i).Shaped C.prog ∧ i.vars = [] ∧ Input.okWide C.prog (w.forCall tape i) .any w.heap.size f i ∧
      ((s.pre enc C.prog fn conds apart (w.forCall tape i).memory i.args ∧ X (w.forCall tape i).memory i.args) ∧ sizedMet enc C.prog fn (OpenSpec.ofChange s) apart (w.forCall tape i).memory i.args) ∧ a.holds C.prog (lone (Frame.enter C.prog f i.args .normal) [] (w.forCall tape i)))
    (contract : ∀ (W : World) (base : Nat) (args : Array Value) (ds gs : List (DataW H)) (before : List MemPlace),
      (∀ (j : Nat) t v, fn.params[j]? = some t → args[j]? = some v → Value.okWide C.prog W .any base t v) →
      DataW.Whole enc C.prog fn.params.toList s.vars apart W args.toList ds gs before →
      X W args → W.ShapedOpen C.prog →
      Calls C.prog f args W fun e W' => ∃ v, e = .returned v ∧ s.post enc C.prog fn apart fresh handsOn again W args v W') :
    ReturnsInHanded a C os f .any (fun w args => (s.pre enc C.prog fn conds apart w args ∧ X w args) ∧ sizedMet enc C.prog fn (OpenSpec.ofChange s) apart w args) (s.post enc C.prog fn apart fresh handsOn again) := by
  refine returnsInHanded_of_calls own started noInit witness ?_
  intro w tape i _ hsh _ hok hpre hholds
  obtain ⟨_, _, _, fn', hfn', _, _, _, _, hval⟩ := hok
  have e : fn' = fn := Option.some.inj (hfn'.symm.trans hfn)
  subst e
  obtain ⟨⟨⟨ds, gs, before, hw, hc⟩, hx⟩, hz⟩ := hpre
  have hw' := DataW.Whole.of_heap (w' := w.forCall tape i) (by rfl) hw
  refine (contract (w.forCall tape i) w.heap.size i.args ds gs before hval hw' (hX _ _ _ (by rfl) hx) hsh).mono fun e W' ⟨v, he, hp⟩ => ?_
  subst he
  exact ChangeSpec.post_blind hp

theorem lt_of_var {W : World} {name : String} {g : Nat} {cs : Array Value} (hg : Tryd.prog.globalNamed name = some g) (hv : W.var? Tryd.prog name = some cs) : g < W.heap.size := by
  unfold World.var? at hv
  rw [hg] at hv
  simp only [Option.bind_some] at hv
  rcases Nat.lt_or_ge g W.heap.size with h | h
  · exact h
  · rw [Array.getElem?_eq_none h] at hv; cases hv
/-- A listed variable's reading. -/
def Vr (W : World) (n : String) (d : DataW Unit) : Prop :=
  ∃ g t cs fuel p, Tryd.prog.globalNamed n = some g ∧ (Tryd.prog.globals[g]?).map (·.type) = some t ∧ W.var? Tryd.prog n = some cs ∧ DataW.trod (fun _ => ()) Tryd.prog W 0 (fun _ => true) false fuel t cs.toList = some (d, p)
theorem vr_of {W : World} : ∀ {l : List (String × DataW Unit)} {ps : List MemPlace}, DataW.LaidVars Tryd.prog W l ps → ∀ n d, (n, d) ∈ l → Vr W n d
  | [], _, _, _, _, hm => by cases hm
  | (n', d') :: r, ps, h, n, d, hm => by
    obtain ⟨g, t, cs, fuel, p, q, h1, h2, h3, h4, h5, _⟩ := h
    rcases List.mem_cons.1 hm with e | e
    · cases e
      exact ⟨g, t, cs, fuel, p, h1, h2, h3, h4⟩
    · exact vr_of h5 n d e

def ruleRow (k : Nat) : List Value := (rowR (k + 1 : Nat) (rMask k) (rVal k) (rWr k) (rRd k)).toList
theorem rules_rows : ∀ j, j < 35 → rulesA[j]? = (ruleRow (j / 5))[j % 5]? := fun j hj => match j, hj with
  | 0, _ => rfl
  | 1, _ => rfl
  | 2, _ => rfl
  | 3, _ => rfl
  | 4, _ => rfl
  | 5, _ => rfl
  | 6, _ => rfl
  | 7, _ => rfl
  | 8, _ => rfl
  | 9, _ => rfl
  | 10, _ => rfl
  | 11, _ => rfl
  | 12, _ => rfl
  | 13, _ => rfl
  | 14, _ => rfl
  | 15, _ => rfl
  | 16, _ => rfl
  | 17, _ => rfl
  | 18, _ => rfl
  | 19, _ => rfl
  | 20, _ => rfl
  | 21, _ => rfl
  | 22, _ => rfl
  | 23, _ => rfl
  | 24, _ => rfl
  | 25, _ => rfl
  | 26, _ => rfl
  | 27, _ => rfl
  | 28, _ => rfl
  | 29, _ => rfl
  | 30, _ => rfl
  | 31, _ => rfl
  | 32, _ => rfl
  | 33, _ => rfl
  | 34, _ => rfl
  | n + 35, h => absurd h (by omega)
theorem rule_row {W : World} {base : Nat} {sp : Nat → Bool} {held : Bool} {fuel : Nat} {cs : List Value} {c a v : Int} {x y : Bool} {p : List MemPlace}
    (h : DataW.trod (fun _ => ()) Tryd.prog W base sp held fuel 41 cs = some ((.agg [.lit (.int .i64 c), .lit (.int .u16 a), .lit (.int .u16 v), .lit (.bool x), .lit (.bool y)] : DataW Unit), p)) : cs = (rowR c a v x y).toList := by
  obtain ⟨ys, n, _, ex, hl, hyl, hf⟩ := DataW.trod_struct Tryd.underlying41 h
  have c5 : Tryd.prog.cellsOf 41 = 5 := by kernel_rfl
  have k0 : Tryd.prog.cellsOf 3 = 1 := by kernel_rfl
  have k1 : Tryd.prog.cellsOf 24 = 1 := by kernel_rfl
  have k3 : Tryd.prog.cellsOf 4 = 1 := by kernel_rfl
  rw [c5] at hl
  match ys, hyl with
  | [y0, y1, y2, y3, y4], _ =>
  match cs, hl with
  | [v0, v1, v2, v3, v4], _ =>
  have h0 : DataW.trod (fun _ => ()) Tryd.prog W base sp held n 3 [v0] = some y0 := by simpa [k0] using hf 0 _ rfl
  have h1 : DataW.trod (fun _ => ()) Tryd.prog W base sp held n 24 [v1] = some y1 := by simpa [k1] using hf 1 _ rfl
  have h2 : DataW.trod (fun _ => ()) Tryd.prog W base sp held n 24 [v2] = some y2 := by simpa [k1] using hf 2 _ rfl
  have h3 : DataW.trod (fun _ => ()) Tryd.prog W base sp held n 4 [v3] = some y3 := by simpa [k3] using hf 3 _ rfl
  have h4 : DataW.trod (fun _ => ()) Tryd.prog W base sp held n 4 [v4] = some y4 := by simpa [k3] using hf 4 _ rfl
  obtain ⟨n0, e0, f0, _⟩ := DataW.trod_int Tryd.underlying3 h0
  obtain ⟨n1, e1, f1, _⟩ := DataW.trod_int Tryd.underlying24 h1
  obtain ⟨n2, e2, f2, _⟩ := DataW.trod_int Tryd.underlying24 h2
  obtain ⟨n3, e3, f3⟩ := DataW.trod_bool Tryd.underlying4 h3
  obtain ⟨n4, e4, f4⟩ := DataW.trod_bool Tryd.underlying4 h4
  subst f0 f1 f2 f3 f4
  have e := (Prod.mk.inj ex).1
  simp at e e0 e1 e2 e3 e4
  obtain ⟨rfl, rfl, rfl, rfl, rfl⟩ := e
  subst e0 e1 e2 e3 e4
  rfl
def rowD (k : Nat) : DataW Unit := .agg [.lit (.int .i64 ((k + 1 : Nat) : Int)), .lit (.int .u16 (rMask k)), .lit (.int .u16 (rVal k)), .lit (.bool (rWr k)), .lit (.bool (rRd k))]
theorem rv_of_reads {W : World} (hR : Vr W "pendulum/port.rules" Rows.laid_pendulum_port_rules) : RV W := by
  obtain ⟨g, t, cs, fuel, p, hg, ht, hv, hd⟩ := hR
  have hgn : Tryd.prog.globalNamed "pendulum/port.rules" = some 2 := by kernel_rfl
  obtain rfl := Option.some.inj (hgn.symm.trans hg)
  obtain rfl := Option.some.inj ((show (Tryd.prog.globals[2]?).map (·.type) = some 42 by kernel_rfl).symm.trans ht)
  obtain ⟨xs, m, _, ex, _, hl, hel⟩ := DataW.trod_array Tryd.underlying42 hd
  have c5 : Tryd.prog.cellsOf 41 = 5 := by kernel_rfl
  have hlt := lt_of_var hgn hv
  have e := (Prod.mk.inj ex).1
  match xs, hl with
  | [x0, x1, x2, x3, x4, x5, x6], _ =>
  have e2 : [rowD 0, rowD 1, rowD 2, rowD 3, rowD 4, rowD 5, rowD 6] = [x0.1, x1.1, x2.1, x3.1, x4.1, x5.1, x6.1] := DataW.agg.inj e
  simp only [List.cons.injEq, and_true] at e2
  obtain ⟨e0, e1, e2, e3, e4, e5, e6⟩ := e2
  have H : ∀ k, k < 7 → (cs.toList.drop (k * 5)).take 5 = ruleRow k := by
    intro k hk
    have hE := hel k hk
    rw [c5] at hE
    match k, hk with
    | 0, _ => exact rule_row (p := x0.2) (hE.trans (congrArg some (Prod.ext e0.symm rfl)))
    | 1, _ => exact rule_row (p := x1.2) (hE.trans (congrArg some (Prod.ext e1.symm rfl)))
    | 2, _ => exact rule_row (p := x2.2) (hE.trans (congrArg some (Prod.ext e2.symm rfl)))
    | 3, _ => exact rule_row (p := x3.2) (hE.trans (congrArg some (Prod.ext e3.symm rfl)))
    | 4, _ => exact rule_row (p := x4.2) (hE.trans (congrArg some (Prod.ext e4.symm rfl)))
    | 5, _ => exact rule_row (p := x5.2) (hE.trans (congrArg some (Prod.ext e5.symm rfl)))
    | 6, _ => exact rule_row (p := x6.2) (hE.trans (congrArg some (Prod.ext e6.symm rfl)))
  refine ⟨fun j v hj => ?_, by omega⟩
  have h35 : j < 35 := (Array.getElem?_eq_some_iff.1 hj).1
  rw [World.var?_cell hgn hv j]
  rw [rules_rows j h35, ← H (j / 5) (by omega)] at hj
  rw [List.getElem?_take, if_pos (by omega), List.getElem?_drop, show j / 5 * 5 + j % 5 = j by omega] at hj
  simpa using hj
theorem ints_of_reads {W : World} {name : String} {g tA n : Nat} {L : List Int} {D : DataW Unit} (hR : Vr W name D)
    (hgn : Tryd.prog.globalNamed name = some g) (hty : (Tryd.prog.globals[g]?).map (·.type) = some tA) (hu : Tryd.prog.underlying tA = some (.array n 24)) (hD : D = .agg (L.map fun z => .lit (.int .u16 z))) (hn : n = L.length) :
    ∀ k, k < L.length → W.cell? ⟨g, k, none⟩ = some (.int .u16 (L.getD k 0)) := by
  obtain ⟨g', t, cs, fuel, p, hg, ht, hv, hd⟩ := hR
  obtain rfl := Option.some.inj (hgn.symm.trans hg)
  obtain rfl := Option.some.inj (hty.symm.trans ht)
  subst hD
  obtain ⟨xs, m, _, ex, _, hl, hel⟩ := DataW.trod_array hu hd
  have c1 : Tryd.prog.cellsOf 24 = 1 := by kernel_rfl
  intro k hk
  have hE := hel k (by omega)
  rw [c1, Nat.mul_one, List.getElem?_eq_getElem (by omega)] at hE
  obtain ⟨s, e1, e2, _⟩ := DataW.trod_int Tryd.underlying24 hE
  have e3 : (xs.map (·.1)) = L.map fun z => .lit (.int .u16 z) := (DataW.agg.inj (Prod.mk.inj ex).1).symm
  have e4 : (xs.map (·.1))[k]? = (L.map fun z => (DataW.lit (.int .u16 z) : DataW Unit))[k]? := by rw [e3]
  rw [List.getElem?_map, List.getElem?_map, List.getElem?_eq_getElem (by omega : k < xs.length), List.getElem?_eq_getElem hk, e2] at e4
  have hz : s = L.getD k 0 := by
    simp only [Option.map_some, Option.some.injEq, DataW.lit.injEq, Lit.int.injEq, true_and] at e4
    rw [e4, List.getD_eq_getElem?_getD, List.getElem?_eq_getElem hk]; rfl
  rw [World.var?_cell hgn hv k, ← hz]
  have : cs.toList[k]? = some (.int .u16 s) := by
    have h0 : ((cs.toList.drop k).take 1)[0]? = some (.int .u16 s) := by rw [e1]; rfl
    simpa using h0
  simpa using this
theorem texts_of_reads {W : World} {name : String} {g tA n : Nat} {L : List (List UInt8)} {D : DataW Unit} (hR : Vr W name D)
    (hgn : Tryd.prog.globalNamed name = some g) (hty : (Tryd.prog.globals[g]?).map (·.type) = some tA) (hu : Tryd.prog.underlying tA = some (.array n 9)) (hD : D = .agg (L.map fun l => .lit (.string l))) (hn : n = L.length) :
    ∀ k, k < L.length → W.cell? ⟨g, k, none⟩ = some (.string ⟨(L.getD k []).toArray⟩) := by
  obtain ⟨g', t, cs, fuel, p, hg, ht, hv, hd⟩ := hR
  obtain rfl := Option.some.inj (hgn.symm.trans hg)
  obtain rfl := Option.some.inj (hty.symm.trans ht)
  subst hD
  obtain ⟨xs, m, _, ex, _, hl, hel⟩ := DataW.trod_array hu hd
  have c1 : Tryd.prog.cellsOf 9 = 1 := by kernel_rfl
  intro k hk
  have hE := hel k (by omega)
  rw [c1, Nat.mul_one, List.getElem?_eq_getElem (by omega)] at hE
  obtain ⟨s, e1, e2, _⟩ := DataW.trod_string Tryd.underlying9 hE
  have e3 : (xs.map (·.1)) = L.map fun l => .lit (.string l) := (DataW.agg.inj (Prod.mk.inj ex).1).symm
  have e4 : (xs.map (·.1))[k]? = (L.map fun l => (DataW.lit (.string l) : DataW Unit))[k]? := by rw [e3]
  rw [List.getElem?_map, List.getElem?_map, List.getElem?_eq_getElem (by omega : k < xs.length), List.getElem?_eq_getElem hk, e2] at e4
  have hz : s.data.toList = L.getD k [] := by
    simp only [Option.map_some, Option.some.injEq, DataW.lit.injEq, Lit.string.injEq] at e4
    rw [e4, List.getD_eq_getElem?_getD, List.getElem?_eq_getElem hk]; rfl
  have hsn : s = ⟨(L.getD k []).toArray⟩ := by rw [← hz]
  rw [World.var?_cell hgn hv k, ← hsn]
  have : cs.toList[k]? = some (.string s) := by
    have h0 : ((cs.toList.drop k).take 1)[0]? = some (.string s) := by rw [e1]; rfl
    simpa using h0
  simpa using this

theorem rv_of_laid {W : World} (hL : laidMetH Tryd.prog Rows.portListsRow.laid W) : RV W := by
  rw [MakeChecks.laidMetH_plain _ _ _ (by kernel_rfl)] at hL
  obtain ⟨ps, hv, _⟩ := hL
  exact rv_of_reads (vr_of hv _ _ (.head _))
theorem pv_of_laid {W : World} (hL : laidMetH Tryd.prog Rows.portNamesRow.laid W) : PV W := by
  rw [MakeChecks.laidMetH_plain _ _ _ (by kernel_rfl)] at hL
  obtain ⟨ps, hv, _⟩ := hL
  have h0 : DataW.LaidVars Tryd.prog W [("pendulum/port.names", Rows.laid_pendulum_port_names), ("pendulum/port.usual", Rows.laid_pendulum_port_usual), ("pendulum/port.rules", Rows.laid_pendulum_port_rules)] ps := hv
  exact ⟨texts_of_reads (L := [[], [117, 108, 97], [112, 97, 103, 101], [109, 111, 114, 101], [115, 101, 108, 101, 99, 116], [100, 97, 116, 97], [109, 97, 105, 110], [102, 100, 99], [110, 111, 110, 101]]) (vr_of h0 _ _ (.head _)) (by kernel_rfl) (by kernel_rfl) Tryd.underlying38 (by kernel_rfl) rfl, ints_of_reads (L := [0, 254, 32765, 8189, 65533, 49149, 12285, 16381, 255]) (vr_of h0 _ _ (.tail _ (.head _))) (by kernel_rfl) (by kernel_rfl) Tryd.underlying39 (by kernel_rfl) rfl, rv_of_reads (vr_of h0 _ _ (.tail _ (.tail _ (.head _))))⟩
end Go.Proofs.YtmgaibpdpcancaaDoor
