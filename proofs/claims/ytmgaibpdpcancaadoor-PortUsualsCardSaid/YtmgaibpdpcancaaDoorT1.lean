
/- Package port: its variables, a rule's has, the rules as a row, what is told of a class. -/
import Derived.Test.YtmgaibpdpcancaaDoorB
import Derived.WalkKit
import Derived.WalkSpells
import Derived.WalkLawsBesides
import Derived.Lib.Hide
import Derived.Laws.Rows
import Derived.Lib.BitFns
namespace Go.Proofs.YtmgaibpdpcancaaDoor
open Go.RowKit
set_option linter.unusedSimpArgs false
set_option linter.unusedVariables false
set_option maxRecDepth 100000

/-- The rules: a class's number less one; mask, value, is it written, is it read. -/
def rMask (k : Nat) : Int := ([1, 49154, 61442, 49154, 49154, 61442, 61442] : List Int).getD k 0
def rVal (k : Nat) : Int := ([0, 16384, 4096, 49152, 32768, 8192, 12288] : List Int).getD k 0
def rWr (k : Nat) : Bool := ([true, true, true, true, true, false, true] : List Bool).getD k false
def rRd (k : Nat) : Bool := ([true, false, false, true, false, true, true] : List Bool).getD k false
abbrev rowR (c m v : Int) (a b : Bool) : Array Value := #[.int .i64 c, .int .u16 m, .int .u16 v, .bool a, .bool b]
def rulesA : Array Value := #[.int .i64 1, .int .u16 1, .int .u16 0, .bool true, .bool true, .int .i64 2, .int .u16 49154, .int .u16 16384, .bool true, .bool false, .int .i64 3, .int .u16 61442, .int .u16 4096, .bool true, .bool false, .int .i64 4, .int .u16 49154, .int .u16 49152, .bool true, .bool true, .int .i64 5, .int .u16 49154, .int .u16 32768, .bool true, .bool false, .int .i64 6, .int .u16 61442, .int .u16 8192, .bool false, .bool true, .int .i64 7, .int .u16 61442, .int .u16 12288, .bool true, .bool true]
/-- Is a port of a class (its number less one)? -/
def hasC (p : Int) (k : Nat) : Bool := bits .and .u16 p (rMask k) == rVal k
/-- The names, the usual ports. -/
def nmB (k : Nat) : ByteArray := ⟨(([[], [117, 108, 97], [112, 97, 103, 101], [109, 111, 114, 101], [115, 101, 108, 101, 99, 116], [100, 97, 116, 97], [109, 97, 105, 110], [102, 100, 99], [110, 111, 110, 101]] : List (List UInt8)).getD k []).toArray⟩
def usI (k : Nat) : Int := ([0, 254, 32765, 8189, 65533, 49149, 12285, 16381, 255] : List Int).getD k 0

/-- The variable of the rules. -/
structure RV (w : World) : Prop where
  rules : ∀ j v, rulesA[j]? = some v → w.cell? ⟨2, j, none⟩ = some v
  size : 3 ≤ w.heap.size
/-- All three. -/
structure PV (w : World) : Prop where
  names : ∀ k, k < 9 → w.cell? ⟨0, k, none⟩ = some (.string (nmB k))
  usual : ∀ k, k < 9 → w.cell? ⟨1, k, none⟩ = some (.int .u16 (usI k))
  rv : RV w
theorem RV.on {w w' : World} (h : RV w) (hb : Below w.heap.size w w') : RV w' :=
  ⟨fun j v hv => (hb.cell (Nat.lt_of_lt_of_le (show 2 < 3 by decide) h.size)).trans (h.rules j v hv), Nat.le_trans h.size hb.size⟩
theorem PV.on {w w' : World} (h : PV w) (hb : Below w.heap.size w w') : PV w' :=
  ⟨fun k hk => (hb.cell (Nat.lt_of_lt_of_le (show 0 < 3 by decide) h.rv.size)).trans (h.names k hk), fun k hk => (hb.cell (Nat.lt_of_lt_of_le (show 1 < 3 by decide) h.rv.size)).trans (h.usual k hk), h.rv.on hb⟩

/-- A load of all cells of an array that begins a block. -/
theorem w_load_flat {P : Program} {ops : Array Oper} {rest : List Oper} {o : Oper} {a : Act} {w : World} {Q : Exit → Act → World → Prop} (hgd : o.guard = none) (ty : TypeId) (x : Operand) (ho : o.op = .load ty x)
    (g : Nat) (hx : a.eval x = .pointer (some ⟨g, 0, none⟩)) (cs : Array Value) (d : TypeDesc) (hc : ∀ j v, cs[j]? = some v → w.cell? ⟨g, j, none⟩ = some v)
    (hu : P.underlying ty = some d) (hd : (match d with | .struct _ | .array _ _ => true | _ => false) = true) (hi : (P.info? ty).map (·.size) = some cs.size)
    (h : wpList P ops Q rest (a.put o.dst (.agg cs)) w) : wpList P ops Q (o :: rest) a w := by
  refine wpList_plain hgd fun _ hK => ?_
  have hl : (loadCells ⟨g, 0, none⟩ cs.toList.length).run P w = .ok cs.toList.toArray w :=
    run_loadCells_list (P := P) w ⟨g, 0, none⟩ cs.toList (fun j v hv => by
      have hadd : (⟨g, 0, none⟩ : Addr).add j = ⟨g, j, none⟩ := by unfold Addr.add; split <;> simp_all
      rw [hadd]
      exact hc j v (by simpa using hv))
  have hrun : (loadVar ty ⟨g, 0, none⟩).run P w = .ok (.agg cs) w := by
    cases hq : P.info? ty with
    | none => simp [hq] at hi
    | some i =>
      have hs : i.size = cs.size := by simpa [hq] using hi
      have hagg : (isAgg ty).run P w = .ok true w := by
        unfold isAgg
        rw [Sem.run_bind, run_underlying hu w]
        cases d <;> simp_all
      simp only [Array.length_toList, Array.toArray_toList] at hl
      simp [loadVar, Sem.run_bind, hagg, sizeOf, typeInfo, hq, hs, hl]
  unfold Oper.wp execOp
  simp only [ho, hx, Instr.loadAt, Instr.sureAddr, Sem.run_bind, Sem.run_pure, Result.andThen_ok, hrun]
  exact hK _ _ h

theorem rules_index (k : Nat) (w : World) (hk : k < 7) : (Instr.index 42 (.agg rulesA) (.int .i64 (k : Int))).run Tryd.prog w = .ok (.agg (rowR (k + 1 : Nat) (rMask k) (rVal k) (rWr k) (rRd k))) w :=
  match k, hk with
  | 0, _ => by kernel_rfl
  | 1, _ => by kernel_rfl
  | 2, _ => by kernel_rfl
  | 3, _ => by kernel_rfl
  | 4, _ => by kernel_rfl
  | 5, _ => by kernel_rfl
  | 6, _ => by kernel_rfl

theorem has_any (c m v p : Int) (x y : Bool) (w : World) : Calls Tryd.prog 25 #[.agg (rowR c m v x y), .int .u16 p] w fun e w' => e = .returned (.bool (bits .and .u16 p m == v)) ∧ Below w.heap.size w w' := by
  go_enter Tryd.func25, Tryd.ntmps25
  go_wp2
  go_ret
  exact ⟨rfl, (Below.refl _ _).alloc (Nat.le_refl _) _⟩

theorem isClass_any (c : Int) (w : World) : Calls Tryd.prog 24 #[.int .i64 c] w fun e w' => e = .returned (.bool (decide (1 ≤ c) && decide (c ≤ 8))) ∧ w = w' := by
  by_cases h1 : 1 ≤ c
  · by_cases h2 : c ≤ 8
    · rw [decide_eq_true h1, decide_eq_true h2]
      go_enter Tryd.func24, Tryd.ntmps24
      go_wp2
      go_ret
      exact ⟨rfl, rfl⟩
    · rw [decide_eq_true h1, decide_eq_false h2]
      go_enter Tryd.func24, Tryd.ntmps24
      go_wp2
      go_ret
      exact ⟨rfl, rfl⟩
  · rw [decide_eq_false h1]
    go_enter Tryd.func24, Tryd.ntmps24
    go_wp2
    go_ret
    exact ⟨rfl, rfl⟩

/-- What is told of a class. -/
def nameI (c : Int) : ByteArray := if 1 ≤ c ∧ c ≤ 8 then nmB c.toNat else ⟨#[]⟩
def usualI (c : Int) : Int := if 1 ≤ c ∧ c ≤ 8 then usI c.toNat else 0
def chipI (c : Int) : Int := if 1 ≤ c ∧ c ≤ 8 then ([0, 2, 1, 1, 3, 3, 4, 4, 2] : List Int).getD c.toNat 0 else 0
theorem pname_any (c : Int) (w : World) (hV : PV w) : Calls Tryd.prog 8 #[.int .i64 c] w fun e w' => e = .returned (.string (nameI c)) ∧ w = w' := by
  by_cases h : 1 ≤ c ∧ c ≤ 8
  · obtain ⟨n, rfl⟩ : ∃ n : Nat, c = n := ⟨c.toNat, by omega⟩
    have hc := hV.names n (by omega)
    have hn : nameI (n : Int) = nmB n := by unfold nameI; rw [if_pos h]; rfl
    rw [hn]
    have HI := Lib.hid (fun w => isClass_any (n : Int) w)
    rw [decide_eq_true h.1, decide_eq_true h.2] at HI
    clear hn hV
    obtain ⟨h0, h1⟩ := h
    go_enter Tryd.func8, Tryd.ntmps8
    go_wp2_with (go_at_call 24; (with_reducible refine (HI.out _).mono ?_); rintro e w' ⟨rfl, rfl⟩)
    go_ret
    exact ⟨rfl, rfl⟩
  · have hn : nameI c = ⟨#[]⟩ := by unfold nameI; rw [if_neg h]
    have hd : (decide (1 ≤ c) && decide (c ≤ 8)) = false := by simpa using fun h1 => by omega
    rw [hn]
    have HI := Lib.hid (fun w => isClass_any c w)
    rw [hd] at HI
    clear hn hV hd h
    go_enter Tryd.func8, Tryd.ntmps8
    go_wp2_with (go_at_call 24; (with_reducible refine (HI.out _).mono ?_); rintro e w' ⟨rfl, rfl⟩)
    go_ret
    exact ⟨rfl, rfl⟩
theorem pusual_any (c : Int) (w : World) (hV : PV w) : Calls Tryd.prog 9 #[.int .i64 c] w fun e w' => e = .returned (.int .u16 (usualI c)) ∧ w = w' := by
  by_cases h : 1 ≤ c ∧ c ≤ 8
  · obtain ⟨n, rfl⟩ : ∃ n : Nat, c = n := ⟨c.toNat, by omega⟩
    have hc := hV.usual n (by omega)
    have hn : usualI (n : Int) = usI n := by unfold usualI; rw [if_pos h]; rfl
    rw [hn]
    have HI := Lib.hid (fun w => isClass_any (n : Int) w)
    rw [decide_eq_true h.1, decide_eq_true h.2] at HI
    clear hn hV
    obtain ⟨h0, h1⟩ := h
    go_enter Tryd.func9, Tryd.ntmps9
    go_wp2_with (go_at_call 24; (with_reducible refine (HI.out _).mono ?_); rintro e w' ⟨rfl, rfl⟩)
    go_ret
    exact ⟨rfl, rfl⟩
  · have hn : usualI c = 0 := by unfold usualI; rw [if_neg h]
    have hd : (decide (1 ≤ c) && decide (c ≤ 8)) = false := by simpa using fun h1 => by omega
    rw [hn]
    have HI := Lib.hid (fun w => isClass_any c w)
    rw [hd] at HI
    clear hn hV hd h
    go_enter Tryd.func9, Tryd.ntmps9
    go_wp2_with (go_at_call 24; (with_reducible refine (HI.out _).mono ?_); rintro e w' ⟨rfl, rfl⟩)
    go_ret
    exact ⟨rfl, rfl⟩
theorem pchip_any (c : Int) (w : World) : Calls Tryd.prog 10 #[.int .i64 c] w fun e w' => e = .returned (.int .i64 (chipI c)) ∧ w = w' := by
  by_cases h : 1 ≤ c ∧ c ≤ 8
  · have hc : c = 1 ∨ c = 2 ∨ c = 3 ∨ c = 4 ∨ c = 5 ∨ c = 6 ∨ c = 7 ∨ c = 8 := by omega
    clear h
    rcases hc with rfl | rfl | rfl | rfl | rfl | rfl | rfl | rfl
    all_goals
      go_enter Tryd.func10, Tryd.ntmps10
      go_wp2
      go_ret
      exact ⟨rfl, rfl⟩
  · have hn : chipI c = 0 := by unfold chipI; rw [if_neg h]
    rw [hn]
    have e1 : (c == 1) = false := by rw [beq_eq_false_iff_ne]; omega
    have e2 : (c == 2) = false := by rw [beq_eq_false_iff_ne]; omega
    have e3 : (c == 3) = false := by rw [beq_eq_false_iff_ne]; omega
    have e4 : (c == 4) = false := by rw [beq_eq_false_iff_ne]; omega
    have e5 : (c == 5) = false := by rw [beq_eq_false_iff_ne]; omega
    have e6 : (c == 6) = false := by rw [beq_eq_false_iff_ne]; omega
    have e7 : (c == 7) = false := by rw [beq_eq_false_iff_ne]; omega
    have e8 : (c == 8) = false := by rw [beq_eq_false_iff_ne]; omega
    clear hn h
    go_enter Tryd.func10, Tryd.ntmps10
    go_wp2
    go_ret
    exact ⟨rfl, rfl⟩
end Go.Proofs.YtmgaibpdpcancaaDoor
