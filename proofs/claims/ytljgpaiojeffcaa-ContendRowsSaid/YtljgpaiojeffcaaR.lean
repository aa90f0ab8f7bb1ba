
/- A reader of bytes: its methods. -/
import Derived.Test.YtljgpaiojeffcaaS
import Derived.Test.YtljgpaiojeffcaaD
import Derived.Deep.QuietTactic
import Derived.BigQuiet
namespace Go.Proofs.Ytljgpaiojeffcaa
open Go.RowKit
set_option maxRecDepth 100000

section
variable {w w' : World} {g : Nat} {A : Option Addr} {c : Nat} {l : List Int} {p : Nat} {e : Int}

end

theorem grown_setCell (w : World) (g i : Nat) (u : Value) : w.grownBy (w.setCell ⟨g, i, none⟩ u) (some g) :=
  ⟨rfl, rfl, rfl, by simp [World.setCell], fun k _ hk => heap_setCell_other w ⟨g, i, none⟩ k u (fun e => hk (by rw [e]))⟩
theorem grown_drewN (w : World) (n : Nat) (row : Option Nat) : w.grownBy (w.drewN n) row :=
  ⟨rfl, rfl, rfl, Nat.le_refl _, fun _ _ _ => rfl⟩
theorem grown_trans {a b c : World} {row : Option Nat} (h : a.grownBy b row) (k : b.grownBy c row) : a.grownBy c row :=
  ⟨k.os.trans h.os, k.tape.trans h.tape, k.output.trans h.output, Nat.le_trans h.size k.size, fun i hi hne => (k.block i (Nat.lt_of_lt_of_le hi h.size) hne).trans (h.block i hi hne)⟩

/-- The answer is v; the world has been drawn upon. -/
def Drawn (w : World) (v : Value) (e : Ending) (w' : World) : Prop := e = .returned v ∧ ∃ n, w' = w.drewN n

theorem or_place (V k : Nat) (x : Int) (hk : k < 8) (hV : V < 256 ^ k) (h0 : 0 ≤ x) (h1 : x < 256) :
    bits .or .u64 (V : Int) (IntKind.u64.wrap (x * 2 ^ (8 * k))) = ((V + x.toNat * 256 ^ k : Nat) : Int) := by
  obtain ⟨d, rfl⟩ := Int.eq_ofNat_of_zero_le h0
  have e2 : (2 : Nat) ^ (8 * k) = 256 ^ k := by rw [Nat.pow_mul]
  have hd : d * 256 ^ k < 18446744073709551616 := by
    have h3 : d * 256 ^ k < 256 * 256 ^ k := Nat.mul_lt_mul_of_pos_right (by omega) (Nat.pow_pos (by decide))
    have h4 : 256 * 256 ^ k ≤ 256 ^ 8 := by rw [Nat.mul_comm, ← Nat.pow_succ]; exact Nat.pow_le_pow_right (by decide) (by omega)
    have h5 : (256 : Nat) ^ 8 = 18446744073709551616 := by decide
    omega
  have hVb : V < 18446744073709551616 := by
    have h4 : (256 : Nat) ^ k ≤ 256 ^ 8 := Nat.pow_le_pow_right (by decide) (by omega)
    have h5 : (256 : Nat) ^ 8 = 18446744073709551616 := by decide
    omega
  have ew : IntKind.u64.wrap ((d : Int) * 2 ^ (8 * k)) = ((d * 256 ^ k : Nat) : Int) := by
    rw [IntKind.wrap_u64]
    have : (d : Int) * 2 ^ (8 * k) = ((d * 256 ^ k : Nat) : Int) := by rw [← e2]; push_cast; rfl
    rw [this]; omega
  rw [ew, u64_or_nat _ _ hVb hd, Int.toNat_natCast, Nat.or_comm]
  congr 1
  rw [nat_join (8 * k) (d * 256 ^ k) V (by rw [e2]; exact Nat.mul_mod_left _ _) (by rw [e2]; exact hV)]
  omega

theorem getLastD_getD : ∀ (m : List Int), m.getLastD 0 = m.getD (m.length - 1) 0
  | [] => rfl
  | [_] => rfl
  | a :: b :: m => by
    have := getLastD_getD (b :: m)
    simp only [List.getLastD_cons, List.length_cons] at this ⊢
    rw [this]
    simp

end Go.Proofs.Ytljgpaiojeffcaa
