/-  -/
import Derived.Test.YtgaihekapakoeaaGreatDoorRows
import Derived.Test.YtgaihekapakoeaaGreatDoorJ3
import Derived.Test.YtgaihekapakoeaaGreatDoorJ25
import Derived.HandedShaped
import Derived.LaidMore
import Derived.Lay
import Derived.Lib.LaidTab
import Derived.Lib.LaidU8T
import Derived.Stop.LaidErr
import Derived.Stop.Joined
import Derived.Shelf.Vars
import Derived.SevenTiedAt
set_option linter.unusedVariables false
set_option linter.unusedSimpArgs false
namespace Go.Proofs.YtgaihekapakoeaaGreatDoor
open Go.ChangeShapes Go.WideShapes Go.ChangeAt Go.RowKit
set_option maxRecDepth 100000

theorem returnsInHanded_and_shaped {H : Type} {enc : TypeId × Value → H} {a : Assume} {C : Checked} {os : Os} {f : FuncId} {fn : Func} {s : ChangeSpec} {conds : List PathCond} {apart fresh handsOn again : Bool} {X : World → Array Value → Prop}
  (hX : ∀ (w w' : World) (args : Array Value), w.heap = w'.heap → X w args → X w' args)
  (own : ownKnob C.prog.godebug = none) (started : os.Started) (noInit : C.prog.inits.idxOf? f = none) (hfn : C.prog.funcs[f]? = some fn)
  (witness : ∃ (w : World) (tape : Tape) (i : Input), w.os = os ∧ (w.forCall tape i).Shaped C.prog ∧ i.vars = [] ∧ Input.okWide C.prog (w.forCall tape i) .any w.heap.size f i ∧
   ((s.pre enc C.prog fn conds apart (w.forCall tape i).memory i.args ∧ X (w.forCall tape i).memory i.args) ∧ sizedMet enc C.prog fn (OpenSpec.ofChange s) apart (w.forCall tape i).memory i.args) ∧ a.holds C.prog (lone (Frame.enter C.prog f i.args .normal) [] (w.forCall tape i)))
  (contract : ∀ (W : World) (base : Nat) (args : Array Value) (ds gs : List (DataW H)) (before : List MemPlace),
   (∀ (j : Nat) t v, fn.params[j]? = some t → args[j]? = some v → Value.okWide C.prog W .any base t v) →
   DataW.Whole enc C.prog fn.params.toList s.vars apart W args.toList ds gs before →
   X W args → W.ShapedOpen C.prog →
   Calls C.prog f args W fun e W' => ∃ v, e = .returned v ∧ s.post enc C.prog fn apart fresh handsOn again W args v W') :
  ReturnsInHanded a C os f .any (fun w args => (s.pre enc C.prog fn conds apart w args ∧ X w args) ∧ sizedMet enc C.prog fn (OpenSpec.ofChange s) apart w args) (s.post enc C.prog fn apart fresh handsOn again) := by
 refine returnsInHanded_of_calls own started noInit witness ?_
 intro w tape i _ hsh _ hok hpre hholds
 obtain ⟨_, _, _, fn', hfn', _, _, _, _, hval⟩ := hok
 have e : fn' = fn := Option.some.inj (hfn'.symm.trans hfn)
 subst e
 obtain ⟨⟨⟨ds, gs, before, hw, hc⟩, hx⟩, hz⟩ := hpre
 have hw' := DataW.Whole.of_heap (w' := w.forCall tape i) (by rfl) hw
 refine (contract (w.forCall tape i) w.heap.size i.args ds gs before hval hw' (hX _ _ _ (by rfl) hx) hsh).mono fun e W' ⟨v, he, hp⟩ => ?_
 subst he
 exact ChangeSpec.post_blind hp

theorem star : "*" ++ "errors.errorString" = "*errors.errorString" := by decide
theorem rowES (u : TypeId) (h : Tryz.prog.typeName? 3 u = some "*errors.errorString") : u = 204 :=
 typeName_ptr_named (nm := "errors.errorString") (by rw [star]; kernel_rfl) (by kernel_rfl) (by decide) u (by rw [star]; exact h)

theorem tabD : (Rows.laid_internal_strconv_uint64pow10 : DataW Unit) = Lib.tabData .u64 Lib.pow10Tab := by kernel_rfl

theorem gTab10 : Tryz.prog.globalNamed "internal/strconv.uint64pow10" = some 9 := by kernel_rfl
theorem lt_of_var {W : World} {name : String} {g : Nat} {cs : Array Value} (hg : Tryz.prog.globalNamed name = some g) (hv : W.var? Tryz.prog name = some cs) : g < W.heap.size := by
 unfold World.var? at hv
 rw [hg] at hv
 simp only [Option.bind_some] at hv
 rcases Nat.lt_or_ge g W.heap.size with h | h
 ·exact h
 ·rw [Array.getElem?_eq_none h] at hv; cases hv
theorem tabS_of_reads {W : World} {name : String} {g tA n : Nat} {L : List (List UInt8)} {D : DataW Unit} (hR : Lib.VarReads Tryz.prog W name D)
  (hgn : Tryz.prog.globalNamed name = some g) (hty : (Tryz.prog.globals[g]?).map (·.type) = some tA) (hu : Tryz.prog.underlying tA = some (.array n 9)) (hD : D = .agg (L.map fun l => .lit (.string l))) (hn : n = L.length) : TabS W W.heap.size g L := by
 obtain ⟨g', t, cs, fuel, p, hg, ht, hv, hd⟩ := hR
 obtain rfl := Option.some.inj (hgn.symm.trans hg)
 obtain rfl := Option.some.inj (hty.symm.trans ht)
 subst hD
 obtain ⟨xs, m, _, ex, _, hl, hel⟩ := DataW.trod_array hu hd
 have c1 : Tryz.prog.cellsOf 9 = 1 := by kernel_rfl
 refine ⟨lt_of_var hgn hv, fun k hk => ?_⟩
 have hE := hel k (by omega)
 rw [c1, Nat.mul_one, List.getElem?_eq_getElem (by omega)] at hE
 obtain ⟨s, e1, e2, _⟩ := DataW.trod_string Tryz.underlying9 hE
 have e3 : (xs.map (·.1)) = L.map fun l => .lit (.string l) := (DataW.agg.inj (Prod.mk.inj ex).1).symm
 have e4 : (xs.map (·.1))[k]? = (L.map fun l => (DataW.lit (.string l) : DataW Unit))[k]? := by rw [e3]
 rw [List.getElem?_map, List.getElem?_map, List.getElem?_eq_getElem (by omega : k < xs.length), List.getElem?_eq_getElem hk, e2] at e4
 have hz : s.data.toList = L.getD k [] := by
  simp only [Option.map_some, Option.some.injEq, DataW.lit.injEq, Lit.string.injEq] at e4
  rw [e4, List.getD_eq_getElem?_getD, List.getElem?_eq_getElem hk]; rfl
 have hsn : s = ⟨(L.getD k []).toArray⟩ := by rw [← hz]
 rw [World.var?_cell hgn hv k, ← hsn]
 have : cs.toList[k]? = some (.string s) := by
  have h0 : ((cs.toList.drop k).take 1)[0]? = some (.string s) := by rw [e1]; rfl
  simpa using h0
 simpa using this

theorem vp_of_laid {W : World} (hL : laidMetH Tryz.prog Rows.textTwinsRow.laid W) (hS : W.ShapedOpen Tryz.prog) : VP W W.heap.size := by
 rw [MakeChecks.laidMetH_plain _ _ _ (by kernel_rfl)] at hL
 have h0 : laidMet Tryz.prog (("math/bits.deBruijn32tab", Rows.laid_math_bits_deBruijn32tab) :: ("math/bits.deBruijn64tab", Rows.laid_math_bits_deBruijn64tab) :: ("internal/strconv.uint64pow10", Rows.laid_internal_strconv_uint64pow10) :: ("unicode/utf8.acceptRanges", Rows.laid_unicode_utf8_acceptRanges) :: ("strconv.ErrRange", Rows.laid_strconv_ErrRange) :: ("strconv.ErrSyntax", Rows.laid_strconv_ErrSyntax) :: ("pendulum/text.shifts", Rows.laid_pendulum_text_shifts) :: ("pendulum/text.operations", Rows.laid_pendulum_text_operations) :: ("pendulum/text.byteNames", Rows.laid_pendulum_text_byteNames) :: ("pendulum/text.pairNames", Rows.laid_pendulum_text_pairNames) :: ("pendulum/text.indexNames", Rows.laid_pendulum_text_indexNames) :: ("pendulum/text.conditions", Rows.laid_pendulum_text_conditions) :: [("unicode/utf8.first", Rows.laid_unicode_utf8_first)]) W := hL
 have h2 := h0.tail.tail
 have h5 := h2.tail.tail.tail
 have htab : Lib.TabIs Tryz.prog W "internal/strconv.uint64pow10" .u64 Lib.pow10Tab := by
  rw [tabD] at h2
  exact Lib.tabIs_of_head gTab10 (by kernel_rfl) Tryz.underlying188 Tryz.underlying98 (by kernel_rfl) (by kernel_rfl) h2
 have T : ∀ {name D}, (name, D) ∈ _ → Lib.VarReads Tryz.prog W name D := fun hm => Lib.laidMet.reads h0 hm
 have hmax := cell_of_shapedOpen_int (zero := #[.int .i64 0]) hS (g := 4) (of_decide_eq_true (by kernel_rfl)) (by kernel_rfl) (by kernel_rfl) (by kernel_rfl) (by kernel_rfl) Tryz.underlying3
 have lt_of_cell : ∀ {g : Nat} {v : Value}, W.cell? ⟨g, 0, none⟩ = some v → g < W.heap.size := fun {g v} h => by
  rcases Nat.lt_or_ge g W.heap.size with h1 | h1
  ·exact h1
  ·unfold World.cell? at h
   rw [Array.getElem?_eq_none h1] at h
   cases h
 refine ⟨⟨?_, ?_, ?_, ?_, ?_, ?_, ?_⟩, ?_, ?_, ?_⟩
 ·exact tabS_of_reads (T (.tail _ (.tail _ (.tail _ (.tail _ (.tail _ (.tail _ (.tail _ (.tail _ (.head _)))))))))) (by kernel_rfl) (by kernel_rfl) Tryz.underlying170 (by kernel_rfl) rfl
 ·exact tabS_of_reads (T (.tail _ (.tail _ (.tail _ (.tail _ (.tail _ (.tail _ (.tail _ (.tail _ (.tail _ (.head _))))))))))) (by kernel_rfl) (by kernel_rfl) Tryz.underlying145 (by kernel_rfl) rfl
 ·exact tabS_of_reads (T (.tail _ (.tail _ (.tail _ (.tail _ (.tail _ (.tail _ (.tail _ (.tail _ (.tail _ (.tail _ (.head _)))))))))))) (by kernel_rfl) (by kernel_rfl) Tryz.underlying148 (by kernel_rfl) rfl
 ·exact tabS_of_reads (T (.tail _ (.tail _ (.tail _ (.tail _ (.tail _ (.tail _ (.tail _ (.tail _ (.tail _ (.tail _ (.tail _ (.head _))))))))))))) (by kernel_rfl) (by kernel_rfl) Tryz.underlying170 (by kernel_rfl) rfl
 ·exact tabS_of_reads (T (.tail _ (.tail _ (.tail _ (.tail _ (.tail _ (.tail _ (.head _)))))))) (by kernel_rfl) (by kernel_rfl) Tryz.underlying170 (by kernel_rfl) rfl
 ·exact tabS_of_reads (T (.tail _ (.tail _ (.tail _ (.tail _ (.tail _ (.tail _ (.tail _ (.head _))))))))) (by kernel_rfl) (by kernel_rfl) Tryz.underlying170 (by kernel_rfl) rfl
 ·exact Lib.tabBelow_of_tabIs htab
 ·obtain ⟨m, hm⟩ := hmax
  exact ⟨m, hm, lt_of_cell hm⟩
 ·intro w' hb
  have hu : Lib.Utf8Tabs 7 8 W := utf8Tabs_of_readsT (ρ := Tryz.lays161_ren) ⟨by kernel_rfl, by kernel_rfl, by kernel_rfl, by kernel_rfl⟩ ⟨by kernel_rfl, by kernel_rfl, by kernel_rfl, by kernel_rfl, by kernel_rfl, by kernel_rfl, by kernel_rfl⟩ (T (.tail _ (.tail _ (.tail _ (.tail _ (.tail _ (.tail _ (.tail _ (.tail _ (.tail _ (.tail _ (.tail _ (.tail _ (.head _)))))))))))))) (T (.tail _ (.tail _ (.tail _ (.head _)))))
  have hc : ∀ {g k : Nat} {v : Value}, W.cell? ⟨g, k, none⟩ = some v → w'.cell? ⟨g, k, none⟩ = some v := fun {g k v} h => by
   rcases Nat.lt_or_ge g W.heap.size with h1 | h1
   ·exact (hb.cell h1).trans h
   ·unfold World.cell? at h
    rw [Array.getElem?_eq_none h1] at h
    cases h
  exact ⟨fun c h => hc (hu.1 c h), fun i h => ⟨hc (hu.2 i h).1, hc (hu.2 i h).2⟩⟩
 ·obtain ⟨a0, s0, hv0, _⟩ := laid_sentinel h5 (show Tryz.prog.globalNamed "strconv.ErrSyntax" = some 10 by kernel_rfl) (by kernel_rfl) Tryz.underlying92 rowES Tryz.underlying204 Tryz.underlying206 rfl rfl Tryz.underlying9 (by kernel_rfl) (by kernel_rfl)
  have := World.var?_cell (show Tryz.prog.globalNamed "strconv.ErrSyntax" = some 10 by kernel_rfl) hv0 0
  have h3 := lt_of_var (show Tryz.prog.globalNamed "strconv.ErrSyntax" = some 10 by kernel_rfl) hv0
  exact ⟨_, by simpa using this, Or.inr ⟨_, _, rfl⟩, h3⟩
end Go.Proofs.YtgaihekapakoeaaGreatDoor
