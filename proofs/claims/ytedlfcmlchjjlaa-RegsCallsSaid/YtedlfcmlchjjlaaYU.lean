
/- Registers: what is told as bytes is read again: the walk of RegsBack. -/
import Derived.Test.YtedlfcmlchjjlaaYT
import Derived.Test.YtedlfcmlchjjlaaYM
namespace Go.Proofs.Ytedlfcmlchjjlaa
open Go.RowKit
set_option linter.unusedSimpArgs false
set_option linter.unusedVariables false
set_option maxRecDepth 100000

theorem OB.set8 {w : World} {B c g : Nat} {l : List Int} (h : OB w B (some ⟨g, 0, none⟩) c l) (j : Nat) (x : Int) (h0 : 0 ≤ x) (h1 : x < 256) :
    OB (w.setCell ⟨g, j, none⟩ (.int .u8 x)) B (some ⟨g, 0, none⟩) c (l.set j x) ∧ w.grownBy (w.setCell ⟨g, j, none⟩ (.int .u8 x)) (some g) := by
  have h2 := h.own.stored j (.int .u8 x)
  refine ⟨⟨?_, ?_⟩, h2.2⟩
  · have := h2.1
    rw [List.length_set, List.map_set]
    exact this
  · intro n hn
    rcases List.mem_or_eq_of_mem_set hn with h1' | rfl
    · exact h.bytes n h1'
    · exact ⟨h0, h1⟩
theorem OB.pos8 {w : World} {B c : Nat} {A : Option Addr} {l : List Int} (h : OB w B A c l) (hl : 0 < l.length) : ∃ g, A = some ⟨g, 0, none⟩ ∧ B ≤ g ∧ g < w.heap.size := by
  have hlt := h.own.lt
  rcases h.own.2 with ⟨_, h2⟩ | ⟨g, cap, cur, h1, hb, _⟩
  · omega
  · injection h1 with h3 h4 h5
    exact ⟨g, h3, hb, (hlt g (by rw [h3]; rfl)).2⟩
theorem wpList_load_want {P : Program} {ops : Array Oper} {rest : List Oper} {o : Oper} {a : Act} {w : World} {Q : Exit → Act → World → Prop} (hw : Region.wanted o (yielded ops a.tmps) = true) (ty : TypeId) (x : Operand) (ho : o.op = .load ty x) (g : Nat) (hx : a.eval x = .pointer (some ⟨g, 0, none⟩))
    (t : TypeId) (cs : Array Value) (fr : Nat × Nat) (d : TypeDesc) (hg : w.heap[g]? = some (.cells cs t fr)) (hu : P.underlying ty = some d) (hd : (match d with | .struct _ | .array _ _ => true | _ => false) = true) (hi : (P.info? ty).map (·.size) = some cs.size)
    (h : wpList P ops Q rest (a.put o.dst (.agg cs)) w) : wpList P ops Q (o :: rest) a w :=
  BigFrame.wpList_want hw fun K hK => Oper.wp_of_does (does_load_row ty x ho g hx t cs fr d hg hu hd hi (hK _ _ h))
theorem OB.row8 {w : World} {B b : Nat} {A : Option Addr} {c : Nat} {l : List Int} (h : OB w B A c l) (cs : Array Value) (hb : b < B) : OB (w.setRow b cs) B A c l := by
  refine ⟨⟨h.own.1, ?_⟩, h.bytes⟩
  rcases h.own.2 with h1 | ⟨g, cap, cur, h1, hg, hr, hx⟩
  · exact .inl h1
  · exact .inr ⟨g, cap, cur, h1, hg, (setRow_other w b g cs (by omega)).trans hr, hx⟩
def rdR (l : List Int) : Rg := if l.length = 32 then readR l else zeroR
def rdE (l : List Int) : Int := if l.length = 32 then readE l else 4
theorem c8_read_any (A : Option Addr) (c n : Nat) (l : List Int) (w : World) (hn : n = l.length) (h : RB w w.heap.size A c l) : Calls Try.prog 10 #[.slice A n c] w fun e w' => e = .returned (.tuple #[(rdR l).val, .int .i64 (rdE l)]) ∧ Below w.heap.size w w' := by
  subst hn
  unfold rdR rdE
  by_cases hl : l.length = 32
  · rw [if_pos hl, if_pos hl]
    have := c8_read A c l w h hl
    rw [← hl] at this
    exact this
  · rw [if_neg hl, if_neg hl]
    exact c8_read_len A l.length c hl w
theorem rd_good {l : List Int} (h : AllB l) (h0 : rdE l = 0) : (rdR l).Ok ∧ (rdR l).May ∧ bytesR (rdR l) = l := by
  unfold rdE at h0
  unfold rdR
  by_cases hl : l.length = 32
  · rw [if_pos hl] at h0 ⊢
    unfold readE at h0
    unfold readR
    by_cases hq : readOk l
    · rw [if_pos hq]
      exact ⟨tR_ok h, hq.1, hq.2⟩
    · rw [if_neg hq] at h0; omega
  · rw [if_neg hl] at h0; omega
theorem rd_two (l : List Int) : rdE l = 0 ∨ rdE l = 4 := by
  unfold rdE readE
  by_cases hl : l.length = 32
  · rw [if_pos hl]
    by_cases hq : readOk l
    · exact .inl (if_pos hq)
    · exact .inr (if_neg hq)
  · exact .inr (if_neg hl)
theorem rd_bytes {r : Rg} (hm : r.May) : rdR (bytesR r) = r ∧ rdE (bytesR r) = 0 := by
  unfold rdR rdE readR readE
  rw [if_pos (bytesR_len r), if_pos (bytesR_len r), if_pos (readOk_bytes hm), if_pos (readOk_bytes hm)]
  exact ⟨tR_bytes r, rfl⟩
theorem rd_burst {r : Rg} (h : r.Ok) (hm : r.May) (k ch : Nat) (hch : ch < 65536) (h0 : ch ≠ 0) (hk : k + 16 ≤ 256) : rdE (flips (bytesR r) k ch 16) = 4 := by
  unfold rdE readE
  rw [if_pos (by rw [flips_length, bytesR_len]), if_neg (burst_refused h hm k ch hch h0 hk)]

end Go.Proofs.Ytedlfcmlchjjlaa
