/-  -/
import Derived.Test.YtgaihekapakoeaaGreatDoorZBH
namespace Go.Proofs.YtgaihekapakoeaaGreatDoor
open Go.RowKit
set_option linter.unusedVariables false
set_option linter.unusedSimpArgs false
set_option maxRecDepth 100000

set_option maxHeartbeats 4000000 in
theorem rows_long (w : World) (at9 : Int) (A : Option Addr) (c n : Nat) (s : ByteArray) (hV : VT w w.heap.size) (hP : ParseTo w) (h1 : 60 < n ∨ 60 < s.size) : Calls Tryz.prog 7 #[.slice A n c, .int .i64 at9, .string s] w fun e w' => e = .returned (.bool true) ∧ Below w.heap.size w w' := by
  have HL := Lib.hid (lives10 w hV hP.ok)
  clear hV hP
  by_cases hn : 60 < n
  · clear h1
    go_enter Tryz.func7, Tryz.ntmps7
    go_wp2_with fail
    refine HL.out.mono ?_
    rintro e w1 ⟨rfl, hb⟩
    go_wp2_with fail
    go_ret
    exact ⟨rfl, hb⟩
  · have h2 : 60 < s.size := by omega
    clear h1
    go_enter Tryz.func7, Tryz.ntmps7
    go_wp2_with fail
    refine HL.out.mono ?_
    rintro e w1 ⟨rfl, hb⟩
    go_wp2_with fail
    go_ret
    exact ⟨rfl, hb⟩
/-- The empty row of texts, and one texts' row appended to it. -/
theorem run_append_texts (w : World) (ty : TypeId) (base : Nat) (v : Value) (Ms : List ByteArray) (hown : w.ownsRow base 9 1 v Ms.length (Ms.map Value.string))
    (A : Option Addr) (c : Nat) (Ns : List ByteArray) (hN : TL w w.heap.size A c Ns) (hne : 0 < Ns.length) (b1 : Ms.length + Ns.length ≤ 1000000) (hbase : base ≤ w.heap.size) :
    ∃ v' w', (Builtin.append_ #[30, 30] ty #[v, .slice A Ns.length c]).run Tryz.prog w = .ok v' w' ∧ w'.ownsRow base 9 1 v' (Ms ++ Ns).length ((Ms ++ Ns).map Value.string) ∧ w.grownBy w' v.ownBlock := by
  obtain ⟨i0, hi, hz0, hz1, hz2⟩ := info_parts info_text
  obtain ⟨b, o, rfl, hb, hat⟩ := hN.at_ hne
  have hc : ∀ j u, (Ns.map Value.string)[j]? = some u → w.cell? ((⟨b, o, none⟩ : Addr).add j) = some u := by
    intro j u hu
    have hj : j < Ns.length := by
      have := (List.getElem?_eq_some_iff.1 hu).1
      simpa using this
    have hadd : (⟨b, o, none⟩ : Addr).add j = ⟨b, o + j, none⟩ := by unfold Addr.add; split <;> simp_all
    rw [hadd, hat j hj, ← hu]
    simp [List.getD_eq_getElem?_getD, hj]
  obtain ⟨v', w', hrun, r1, r2, _⟩ := run_append_own (P := Tryz.prog) w base 30 ty 9 i0 _ 1 16 Tryz.underlying30 hi hz0 hz1 hz2 rfl (by decide) _ Ms.length (Ms.map Value.string) hown ⟨b, o, none⟩ Ns.length c (Ns.map Value.string) (by simp) hc (fun u hu => by obtain ⟨s, _, rfl⟩ := List.mem_map.1 hu; rfl) (by unfold maxLen; omega) (by omega) hbase
  refine ⟨v', w', hrun, ?_, r2⟩
  rw [List.length_append, List.map_append]
  exact r1
end Go.Proofs.YtgaihekapakoeaaGreatDoor
