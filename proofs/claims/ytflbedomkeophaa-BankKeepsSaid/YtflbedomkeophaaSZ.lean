
/- A memory's bytes are read as it: pure. -/
import Derived.Test.YtflbedomkeophaaSY
namespace Go.Proofs.Ytflbedomkeophaa
open Go.RowKit
set_option linter.unusedSimpArgs false
set_option linter.unusedVariables false

theorem drop_more {l X r : List Int} {p : Nat} (h : l.drop p = X ++ r) : l.drop (p + X.length) = r := by
  rw [← List.drop_drop, h, List.drop_left]
theorem count_at {l r : List Int} {p v : Nat} {m : Int} (h : l.drop p = numB v ++ r) (hv : v < 18446744073709551616) (hm : (v : Int) ≤ m) : countSt l p 0 m = (v, p + (numB v).length, 0) := by
  have e : numSt l p 0 = (v, p + (numB v).length, 0) := by
    unfold numSt
    rw [if_pos rfl, h, numRd_numB v hv]
  unfold countSt
  rw [e, if_neg]
  show ¬ ((v : Int) > max m 0)
  omega
theorem block_at {l m r : List Int} {p : Nat} (h : l.drop p = numB m.length ++ (m ++ r)) (hm : m.length ≤ 1048576) : blockSt l p 0 = (m, p + (numB m.length).length + m.length, 0) := by
  have e : numSt l p 0 = (m.length, p + (numB m.length).length, 0) := by
    unfold numSt
    rw [if_pos rfl, h, numRd_numB m.length (by omega)]
  have hd := drop_more h
  have hlen : l.length - (p + (numB m.length).length) = m.length + r.length := by
    have := congrArg List.length hd
    rw [List.length_drop, List.length_append] at this
    exact this
  unfold blockSt
  rw [e]
  dsimp only
  rw [if_neg (by omega), if_neg (by simp), if_neg (by omega), hd, List.take_left]
theorem tkL_all (l : List Int) : ∀ (ds : List PP) (p : Nat) (acc : List PP) (r : List Int), l.drop p = ds.flatMap ppB ++ r → (∀ x ∈ ds, PPok x) → ∃ p', tkL l ds.length p 0 acc = (acc ++ ds, p', 0) ∧ l.drop p' = r
  | [], p, acc, r, h, _ => ⟨p, by rw [List.append_nil]; rfl, by simpa using h⟩
  | x :: t, p, acc, r, h, hok => by
    obtain ⟨h1, h2, h3, h4⟩ := hok x (List.mem_cons_self ..)
    rw [List.flatMap_cons] at h
    have hx : ppB x = numB x.1 ++ (numB x.2.1 ++ (numB x.2.2.length ++ x.2.2)) := by unfold ppB numsL; simp
    rw [hx] at h
    simp only [List.append_assoc] at h
    have c1 := count_at (m := 11) h (by omega) (by omega)
    have h' := drop_more h
    have c2 := count_at (m := 16383) h' (by omega) (by omega)
    have h'' := drop_more h'
    have c3 := block_at h'' (by omega)
    have h3' := drop_more h''
    have h4' := drop_more h3'
    rw [List.length_cons, tkL_step c1 c2 c3]
    dsimp only
    rw [if_neg (by simp)]
    obtain ⟨p', e1, e2⟩ := tkL_all l t _ (acc ++ [(x.1, x.2.1, x.2.2)]) r h4' (fun y hy => hok y (List.mem_cons_of_mem _ hy))
    refine ⟨p', ?_, e2⟩
    rw [e1, List.append_assoc]
    rfl
theorem taken_mem (a b : Nat) (ds : List PP) (ha : a < 256) (hb : b < 256) (hn : ds.length ≤ 98304) (hok : ∀ x ∈ ds, PPok x) : takenSt (memB a b ds) = (a, b, ds, 0) := by
  have h0 : (memB a b ds).drop 0 = numB a ++ (numB b ++ (numB ds.length ++ (ds.flatMap ppB ++ []))) := by
    unfold memB numsL
    simp
  have c1 := count_at (m := 255) h0 (by omega) (by omega)
  have h1 := drop_more h0
  have c2 := count_at (m := 255) h1 (by omega) (by omega)
  have h2 := drop_more h1
  have c3 := count_at (m := 98304) h2 (by omega) (by omega)
  have h3 := drop_more h2
  obtain ⟨p', e1, e2⟩ := tkL_all _ ds _ [] [] h3 hok
  unfold takenSt
  rw [c1]
  dsimp only
  rw [c2]
  dsimp only
  rw [c3]
  dsimp only
  rw [e1]
  dsimp only
  have hend : endSt (memB a b ds) p' 0 = 0 := by
    unfold endSt
    rw [if_neg]
    rintro ⟨_, h⟩
    have := congrArg List.length e2
    rw [List.length_drop] at this
    simp at this
    omega
  rw [hend]
  simp
theorem memB_len (a b : Nat) (ds : List PP) (hn : ds.length ≤ 98304) (hok : ∀ x ∈ ds, PPok x) : (memB a b ds).length ≤ 2000000000 ∧ AllB (memB a b ds) := by
  have h1 := numsL_len [a, b, ds.length]
  have h2 := pflat_len ds hok
  unfold memB
  simp only [Int.toNat_natCast]
  refine ⟨?_, (numsL_all _).append fun n hn => ?_⟩
  · rw [List.length_append]
    simp only [List.length_cons, List.length_nil] at h1
    omega
  · obtain ⟨x, hx, hx2⟩ := List.mem_flatMap.1 hn
    exact (ppB_len x (hok x hx)).2 n hx2
end Go.Proofs.Ytflbedomkeophaa
