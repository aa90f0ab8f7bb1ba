/-    -/
import Derived.Test.YtgaihekapakoeaaGreatDoorJ22
import Derived.Lib.FrozenHead
set_option linter.unusedVariables false
set_option linter.unusedSimpArgs false
namespace Go.Proofs.YtgaihekapakoeaaGreatDoor
open Go.RowKit


set_option maxRecDepth 100000

theorem run_storeCells_mark (P : Program) (g o : Nat) (t : TypeId) (fz : Nat × Nat) : ∀ (vs : List Value) (i : Nat) (cur : Array Value) (w : World), w.heap[g]? = some (.cells cur t fz) → cur.size ≤ fz.1 → o + i + vs.length ≤ cur.size → (∀ v ∈ vs, v.oneCell' = true) →
  (storeCells ⟨g, o, none⟩ vs i).run P w = .ok () (w.setRow g (cur.toList.take (o + i) ++ vs ++ cur.toList.drop (o + i + vs.length)).toArray)
 | [], i, cur, w, hg, _, _, _ => by
  simp only [storeCells, List.append_nil, List.length_nil, Nat.add_zero, List.take_append_drop, Array.toArray_toList]
  rw [setRow_self w g cur t fz hg]
  rfl
 | v :: rest, i, cur, w, hg, hfz, hl, h1 => by
  have hi : o + i < cur.size := by simp at hl; omega
  have hadd : (⟨g, o, none⟩ : Addr).add i = ⟨g, o + i, none⟩ := by unfold Addr.add; split <;> simp_all
  have hcell : w.cell? ⟨g, o + i, none⟩ = some cur[o + i] := by simp [World.cell?, hg, hi]
  have hfro : w.frozen? ⟨g, o + i, none⟩ = false := by
   obtain ⟨lo, hi'⟩ := fz
   simp only [World.frozen?, hg, Bool.and_eq_false_iff, decide_eq_false_iff_not]
   left
   simp only at hfz
   omega
  have hst : (store ((⟨g, o, none⟩ : Addr).add i) v).run P w = .ok () (w.setRow g (cur.setIfInBounds (o + i) v)) := by
   rw [hadd, run_store P w _ v _ (h1 v (by simp)), hcell]
   simp [hfro, setCell_eq_setRow w g (o + i) cur t fz v hg]
  have ih := run_storeCells_mark P g o t fz rest (i + 1) (cur.setIfInBounds (o + i) v) (w.setRow g (cur.setIfInBounds (o + i) v)) (setRow_heap w g cur _ t _ hg) (by simpa using hfz) (by simp at hl ⊢; omega) (fun x hx => h1 x (by simp [hx]))
  simp only [storeCells, Sem.run_bind, hst, Result.andThen_ok, ih, setRow_setRow]
  congr 3
  have e := list_seg_step cur.toList (o + i) v rest (by simp at hl ⊢; omega)
  simpa [Array.toList_setIfInBounds, Nat.add_assoc] using e
theorem List.map_map_append_u8 (ah : List UInt8) (news : List Int) : (ah.map (fun b => (b.toNat : Int)) ++ news).map (Value.int .u8) = ah.map (fun b => Value.int .u8 (b.toNat : Int)) ++ news.map (Value.int .u8) := by
 rw [List.map_append, List.map_map]; rfl
theorem conv_append (w : World) (ah : List UInt8) (ha : ah.length ≤ 100) (news : List Int) (hn : AllB news) (hl : news.length ≤ 100) (w2 : World)
  (hw2 : w2 = (Lib.bytesWorld w 5 ⟨ah.toArray⟩).alloc (.cells (news.map (Value.int .u8)).toArray 5)) :
  ∃ A c w3, (Builtin.append_ #[27, 27] 27 #[.slice (some ⟨w.heap.size, 0, none⟩) ah.length (grownCap w ah.length 0 5), .slice (some ⟨w.heap.size + 1, 0, none⟩) news.length news.length]).run Tryz.prog w2 = .ok (.slice (some A) (ah.length + news.length) c) w3 ∧
   RB w3 w3.heap.size (some A) c (ah.map (fun b => (b.toNat : Int)) ++ news) ∧ Below w.heap.size w w3 := by
 obtain ⟨i0, hi, hz0, hz1, hz2⟩ := info_parts infoB
 have hP : (⟨ah.toArray⟩ : ByteArray).size = ah.length := by simp [ByteArray.size]
 obtain ⟨cap, hcap⟩ : ∃ cap, grownCap w ah.length 0 5 = cap := ⟨_, rfl⟩
 have hge : ah.length ≤ cap := hcap ▸ grownCap_ge w ah.length 0 5
 have hmx : cap ≤ maxLen := hcap ▸ grownCap_le_maxLen w ah.length 0 5 (by unfold maxLen; omega)
 obtain ⟨C, hC⟩ : ∃ C, Lib.bytesCells w 5 ⟨ah.toArray⟩ = C := ⟨_, rfl⟩
 have hCs : C.size = cap := by
  rw [← hC]
  unfold Lib.bytesCells
  rw [hP, hcap]
  simp
  omega
 have hg1 := Lib.bytesWorld_at_new w 5 ⟨ah.toArray⟩
 rw [hC] at hg1
 have hsz1 := Lib.bytesWorld_size w 5 ⟨ah.toArray⟩
 have hcell : ∀ j, j < ah.length → (Lib.bytesWorld w 5 ⟨ah.toArray⟩).cell? ⟨w.heap.size, j, none⟩ = some (.int .u8 ((ah.getD j 0).toNat : Int)) := fun j hj => by
  rw [Lib.bytesWorld_cell w _ _ j (by omega), at_list]
 have hb1 : Below w.heap.size w (Lib.bytesWorld w 5 ⟨ah.toArray⟩) := bytes_world
 obtain ⟨w1, hw1⟩ : ∃ w1, Lib.bytesWorld w 5 ⟨ah.toArray⟩ = w1 := ⟨_, rfl⟩
 rw [hw1] at hw2 hg1 hsz1 hcell hb1
 have hg2 : w2.heap[w.heap.size]? = some (.cells C 5 (C.size, C.size + 1)) := by
  rw [hw2]; exact (Lib.alloc_old w1 _ _ (by omega)).trans hg1
 have hnw : ∀ j u, (news.map (Value.int .u8))[j]? = some u → w2.cell? (Addr.add ⟨w.heap.size + 1, 0, none⟩ j) = some u := by
  intro j u hj
  have h := (OB.lit w1 news hn (by unfold maxLen; omega)).own.cells (g := w1.heap.size) rfl j u hj
  rw [hsz1, ← hw2] at h
  exact h
 have hold : ∀ j u, (ah.map (fun b => Value.int .u8 (b.toNat : Int)))[j]? = some u → w2.cell? (Addr.add ⟨w.heap.size, 0, none⟩ j) = some u := by
  intro j u hj
  rw [List.getElem?_map] at hj
  obtain ⟨x, hx, rfl⟩ := Option.map_eq_some_iff.1 hj
  have hlt := (List.getElem?_eq_some_iff.1 hx).1
  rw [Addr.add_lit, hw2]
  have h2 := hcell j hlt
  rw [List.getD, hx] at h2
  simp only [Nat.zero_add]
  rw [World.cell?_of_block (Lib.alloc_old w1 _ w.heap.size (by omega))]
  exact h2
 have hb2 : Below w.heap.size w w2 := hw2 ▸ hb1.alloc (by omega) _
 have hone : ∀ u ∈ news.map (Value.int .u8), u.oneCell' = true := by
  intro u hu
  obtain ⟨x, -, rfl⟩ := List.mem_map.1 hu
  rfl
 have hall : AllB (ah.map (fun b => (b.toNat : Int)) ++ news) := by
  intro n hn2
  rcases List.mem_append.1 hn2 with h | h
  ·obtain ⟨x, -, rfl⟩ := List.mem_map.1 h
   have := x.toNat_lt
   omega
  ·exact hn n h
 rw [hcap]
 by_cases hroom : ah.length + news.length ≤ cap
 ·have hf := run_firstCells_some (P := Tryz.prog) w2 i0.size news.length ⟨w.heap.size + 1, 0, none⟩ news.length news.length (news.map (Value.int .u8)) (by rw [hz1]; simp) hnw
  have hst := run_storeCells_mark Tryz.prog w.heap.size (ah.length * i0.size) 5 _ (news.map (Value.int .u8)) 0 C w2 hg2 (Nat.le_refl _) (by rw [hz1]; simp; omega) hone
  simp only [Nat.add_zero] at hst
  have htake : C.toList.take (ah.length * i0.size) = ah.map (fun b => Value.int .u8 (b.toNat : Int)) := by
   rw [hz1, ← hC]
   unfold Lib.bytesCells
   simp
  rw [htake] at hst
  obtain ⟨R, hR⟩ : ∃ R, (ah.map (fun b => Value.int .u8 (b.toNat : Int)) ++ news.map (Value.int .u8) ++ C.toList.drop (ah.length * i0.size + (news.map (Value.int .u8)).length)).toArray = R := ⟨_, rfl⟩
  rw [hR] at hst
  have hr : (Builtin.append_ #[27, 27] 27 #[.slice (some ⟨w.heap.size, 0, none⟩) ah.length cap, .slice (some ⟨w.heap.size + 1, 0, none⟩) news.length news.length]).run Tryz.prog w2 = .ok (.slice (some ⟨w.heap.size, 0, none⟩) (ah.length + news.length) cap) (w2.setRow w.heap.size R) := by
   simp [Builtin.append_, run_underlying Tryz.underlying27, sizeOf, typeInfo, hi, Builtin.lenOf, hroom, hf, Addr.add_lit, hst]
  have hrow := setRow_heap w2 w.heap.size C R 5 _ hg2
  refine ⟨⟨w.heap.size, 0, none⟩, cap, _, hr, ?_, hb2.trans ?_⟩
  ·refine RB.mk_ (by simp; omega) hmx hall (Array.getElem?_eq_some_iff.1 hrow).1 fun i hil => ?_
   have hc : (w2.setRow w.heap.size R).cell? ⟨w.heap.size, 0 + i, none⟩ = R[0 + i]? := by
    simp [World.cell?, hrow]
   rw [hc, ← hR, Nat.zero_add, List.getElem?_toArray, List.getElem?_append_left (by simpa using hil), ← List.map_map_append_u8, List.getElem?_map, List.getD]
   rw [List.getElem?_eq_getElem hil]
   rfl
  ·exact ⟨rfl, rfl, rfl, by simp, fun k hk => setRow_other w2 w.heap.size k _ (by omega)⟩
 ·have hr := run_append_grow (P := Tryz.prog) w2 27 27 5 i0 (.int .u8 0) Tryz.underlying27 hi hz0 ⟨w.heap.size, 0, none⟩ ah.length cap (ah.map (fun b => Value.int .u8 (b.toNat : Int))) (by rw [hz1]; simp) hold ⟨w.heap.size + 1, 0, none⟩ news.length news.length (news.map (Value.int .u8)) (by rw [hz1]; simp) hnw (by omega) (by omega) (growslice_fits (by omega) (by rw [hz2]; omega))
  have hge2 := grownCap_ge w2 (ah.length + news.length) cap 5
  have hmx2 := grownCap_le_maxLen w2 (ah.length + news.length) cap 5 (by unfold maxLen; omega)
  refine ⟨_, _, _, hr, ?_, hb2.trans ((Below.refl _ _).drew.alloc (by have := hb2.size; exact this) _)⟩
  refine RB.mk_ (by simp; omega) hmx2 hall (by simp) fun i hil => ?_
  obtain ⟨R, hR⟩ : ∃ R, (ah.map (fun b => Value.int .u8 (b.toNat : Int))).toArray ++ (news.map (Value.int .u8)).toArray ++ Builtin.zeroCells (Value.cells (.int .u8 0)) (grownCap w2 (ah.length + news.length) cap 5 - (ah.length + news.length)) = R := ⟨_, rfl⟩
  rw [hR]
  have hrow : (w2.drew.alloc (.cells R 5)).heap[w2.heap.size]? = some (.cells R 5 (0, 0)) := heap_alloc_new w2.drew _
  rw [Lib.cell_of_heap hrow, ← hR, Nat.zero_add, Array.getElem?_append_left (by simpa using hil), List.append_toArray, List.getElem?_toArray, ← List.map_map_append_u8, List.getElem?_map, List.getD, List.getElem?_eq_getElem hil]
  rfl

theorem wpList_append_run {P : Program} (w w' : World) {ops : Array Oper} {rest : List Oper} {o : Oper} {a : Act} {Q : Exit → Act → World → Prop} (hgd : o.guard = none) (s x : Operand) (ts : Array TypeId)
  (hop : o.op = .call { callee := .builtin .append, args := #[s, x], argTypes := ts }) (v y V : Value) (hs : a.eval s = v) (hx : a.eval x = y)
  (hr : (Builtin.append_ ts o.type #[v, y]).run P w = .ok V w') (h : wpList P ops Q rest (a.put o.dst V) w') : wpList P ops Q (o :: rest) a w := by
 refine wpList_plain hgd fun K hK => ?_
 unfold Oper.wp execOp
 simp only [hop, resolve, invoke, builtin, Sem.run_bind, Sem.run_pure, Result.andThen_ok, List.map_toArray, List.map_cons, List.map_nil, hs, hx, hr]
 exact hK _ _ h
theorem wrap_u8_fin : ∀ a : Fin 256, IntKind.u8.wrap (a.val : Int) = a.val := by decide +kernel
theorem wrap_u8_small (n : Nat) (h : n < 256) : IntKind.u8.wrap (n : Int) = n := wrap_u8_fin ⟨n, h⟩
set_option maxHeartbeats 8000000 in
theorem zo_any (w : World) (ah : List UInt8) (ha : ah.length ≤ 100) (op : Nat) (ho : op < 256) :
  Calls Tryz.prog 98 #[.string ⟨ah.toArray⟩, .int .i64 (op : Int)] w fun e w' => e = .returned (zO (ah.map (fun b => (b.toNat : Int))) op).val ∧ Below w.heap.size w w' := by
 obtain ⟨w1, hw1⟩ : ∃ w1, w.alloc (inO zeroI) = w1 := ⟨_, rfl⟩
 have hb1 : Below w.heap.size w w1 := hw1 ▸ (Below.refl _ _).alloc (Nat.le_refl _) _
 have hr1 : InW w1 w.heap.size zeroI := hw1 ▸ InW.laid w zeroI
 have hwr := wrap_u8_small op ho
 have hnews : AllB [(op : Int), 0, 0, 0] := by
  intro n hn
  simp only [List.mem_cons, List.not_mem_nil, or_false] at hn
  omega
 obtain ⟨w3, hw3⟩ : ∃ w3, (Lib.bytesWorld w1 5 ⟨ah.toArray⟩).alloc (.cells #[.int .u8 (op : Int), .int .u8 0, .int .u8 0, .int .u8 0] 5) = w3 := ⟨_, rfl⟩
 obtain ⟨A, c, w4, happ, hrb, hb4⟩ := conv_append w1 ah ha [(op : Int), 0, 0, 0] hnews (by simp) w3 hw3.symm
 have hs2 := Lib.bytesWorld_size w1 5 ⟨ah.toArray⟩
 have hz : (⟨ah.toArray⟩ : ByteArray).size = ah.length := by simp [ByteArray.size]
 have hof := c9_of (some A) c (ah.length + 4) _ w4 (by simp) hrb
 have hconv := Lib.run_convert_string_bytes (P := Tryz.prog) w1 9 27 5 ⟨ah.toArray⟩ Tryz.underlying9 Tryz.underlying27 Tryz.underlying5
 rw [hz] at hconv
 obtain ⟨w2, hw2⟩ : ∃ w2, Lib.bytesWorld w1 5 ⟨ah.toArray⟩ = w2 := ⟨_, rfl⟩
 rw [hw2] at hconv hs2 hw3
 obtain ⟨cap, hcap⟩ : ∃ cap, grownCap w1 ah.length 0 5 = cap := ⟨_, rfl⟩
 have h4 : [(op : Int), 0, 0, 0].length = 4 := rfl
 rw [hcap] at hconv happ
 rw [h4, ← hs2] at happ
 obtain ⟨V, hV⟩ : ∃ V, ofV (ah.map (fun b => (b.toNat : Int)) ++ [(op : Int), 0, 0, 0]) = V := ⟨_, rfl⟩
 have hVz : zO (ah.map (fun b => (b.toNat : Int))) op = V := hV
 obtain ⟨E, hE⟩ : ∃ E, ofE (ah.map (fun b => (b.toNat : Int)) ++ [(op : Int), 0, 0, 0]) = E := ⟨_, rfl⟩
 rw [hVz]
 rw [hV, hE] at hof
 obtain ⟨P, hP⟩ : ∃ P : ByteArray, (⟨ah.toArray⟩ : ByteArray) = P := ⟨_, rfl⟩
 rw [hP] at hconv hz ⊢
 obtain ⟨n, hn⟩ : ∃ n, ah.length = n := ⟨_, rfl⟩
 rw [hn] at hconv happ hof hz
 rw [in_val] at hof
 have HOf := z_ hof
 have HB4 := z_ (hb1.trans (hb4.mono hb1.size))
 have HB41 := z_ hb4
 have HR1 := z_ hr1
 unfold inO zeroI at hw1
 simp only at hw1
 clear hV hVz hE hof hP hn hrb hb4 hb1 hr1 hnews hs2 hcap h4 hw2 ha ho
 go_enter Tryz.func98, Tryz.ntmps98
 go_wp2_with (at_builtin; refine wpList_append_run _ w4 rfl _ _ _ rfl _ _ _ rfl rfl happ ?_)
 refine HOf.out.mono ?_
 rintro e w5 ⟨rfl, hb5⟩
 have hr5 : InW w5 w.heap.size zeroI := (HR1.out.below HB41.out HR1.out.lt).below hb5 (HR1.out.below HB41.out HR1.out.lt).lt
 have hB5 : Below w.heap.size w w5 := HB4.out.trans (hb5.mono HB4.out.size)
 obtain ⟨w6, hw6⟩ : ∃ w6, w5.alloc (inO V) = w6 := ⟨_, rfl⟩
 have hr6 : InW w6 w5.heap.size V := hw6 ▸ InW.laid w5 V
 have hz6 : InW w6 w.heap.size zeroI := hw6 ▸ hr5.more (inO V)
 have hB6 : Below w.heap.size w w6 := hw6 ▸ hB5.alloc hB5.size _
 have HR6 := z_ hr6
 have HZ6 := z_ hz6
 have HB6 := z_ hB6
 unfold inO at hw6
 clear hr5 hB5 hr6 hz6 hB6 hb5 HR1 HB4 HB41 HOf happ hw3 hconv hw1
 go_wp2_with (first
  | (refine lr w5.heap.size rfl rfl rfl HR6.out ?_)
  | (refine sr w.heap.size rfl rfl rfl rfl HZ6.out (in_one _) ?_))
 (try simp only [Exit.inBlock, Exit.then])
 exact bodyPost_ret (results_cell_row rfl _ _ _ _ _ (0, 0) _ rfl (setRow_heap _ _ _ _ _ _ HZ6.out) Tryz.underlying23 rfl in_info) rfl ⟨rfl, below_setRow HB6.out (Nat.le_refl _) _⟩
end Go.Proofs.YtgaihekapakoeaaGreatDoor
namespace Go.Proofs.YtgaihekapakoeaaGreatDoor
open Go.RowKit


set_option maxRecDepth 100000

set_option maxHeartbeats 400000 in
theorem toldbare_any (i : In) (hi : i.Wf) (w : World) (hV : VT w w.heap.size) (s0 : 0 ≤ i.s) (s1 : i.s < 4) (x0 : 0 ≤ i.x) (x1 : i.x < 3) (o0 : 0 ≤ i.o) (o1 : i.o < 256) (hne : toldT true i ≠ []) :
  Calls Tryz.prog 99 #[i.val] w fun e w' => e = .returned (.string ⟨(toldT true i).toArray⟩) ∧ Below w.heap.size w w' := by
 have HP := z_ (fun (w1 : World) (hb : Below w.heap.size w w1) => p_of i w1 w.heap.size (hV.below hb) hb.size s0 s1 o0 o1)
 have hpl := patOf_len i.s i.o s0 s1 o0 o1
 have HW := z_ (fun (w1 : World) b (hb : Below w.heap.size w w1) (h : WT w1 w.heap.size b i true []) => w_pattern w1 w.heap.size b i hi true [] (hV.below hb) h x0 x1 o0 o1 (patOf i.s i.o) hpl (by decide))
 have ht := toldT_mk true i
 rw [← ht] at HW
 obtain ⟨p, hp⟩ : ∃ p, patOf i.s i.o = p := ⟨_, rfl⟩
 rw [hp] at HP HW
 have HS := z_ (fun (w1 : World) b (h : WT w1 w.heap.size b i true (toldT true i)) => wb_text w1 w.heap.size b _ _ _ h hne)
 obtain ⟨t, htt⟩ : ∃ t, toldT true i = t := ⟨_, rfl⟩
 rw [htt] at HW HS ⊢
 clear htt ht hp hpl hne hV s0 s1 x0 x1 o0 o1
 have hL := InW.laid w i
 have hb0 : Below w.heap.size w (w.alloc (inO i)) := (Below.refl _ _).alloc (Nat.le_refl _) _
 obtain ⟨w1, hw1⟩ : ∃ w1, w.alloc (inO i) = w1 := ⟨_, rfl⟩
 have hs1 : w1.heap.size = w.heap.size + 1 := by rw [← hw1]; simp
 rw [hw1] at hL hb0
 unfold inO at hw1
 rw [in_val]
 have HB0 := z_ hb0
 have HI := z_ hL
 have hL2 : w1.heap[w.heap.size]? = some (.cells #[.int .i64 i.s, .int .i64 i.x, .int .i64 i.o, .int .i64 i.d, .int .i64 i.m, .int .i64 i.n] 23 (0, 0)) := hL
 clear hL
 clear hb0
 go_enter Tryz.func99, Tryz.ntmps99
 go_upto_region 2 with (refine lr w.heap.size rfl rfl rfl hL2 ?_)
 clear hL2
 obtain ⟨w2, hw2⟩ : ∃ w2, w1.alloc (.cells #[.pointer none, .slice none 0 0, .int .i64 i.s, .int .i64 i.x, .int .i64 i.o, .int .i64 i.d, .int .i64 i.m, .int .i64 i.n, .bool true] 101) = w2 := ⟨_, rfl⟩
 have hT2 : WT w2 w.heap.size (w.heap.size + 1) i true [] := by
  refine .inl ⟨by omega, by decide, .slice none 0 0, ?_, World.ownsRow_nil _ _ _ _, by simp [Value.ownBlock]⟩
  rw [← hw2, ← hs1]
  exact heap_alloc_new _ _
 have hb2 : Below w.heap.size w w2 := by rw [← hw2]; exact HB0.out.alloc HB0.out.size _
 have hL2 : w2.heap[w.heap.size]? = some (.cells #[.int .i64 i.s, .int .i64 i.x, .int .i64 i.o, .int .i64 i.d, .int .i64 i.m, .int .i64 i.n] 23 (0, 0)) := by
  rw [← hw2]
  exact (Lib.alloc_old w1 _ _ (by omega)).trans HI.out
 have hL3 : InW w2 w.heap.size i := hL2
 rw [hw2]
 have HT := z_ hT2
 have HB2 := z_ hb2
 have HP2 := z_ (HP.out w2 hb2)
 rw [in_val] at HP2
 clear hw2 hw1 hs1 hT2 hb2 HP HB0 HI hL3
 go_wp2_with (refine lr w.heap.size rfl rfl rfl hL2 ?_)
 refine HP2.out.mono ?_
 rintro e w3 ⟨rfl, hb3⟩
 have hT3 : WT w3 w.heap.size (w.heap.size + 1) i true [] := HT.out.on hb3
 have hB3 := HB2.out.trans (hb3.mono HB2.out.size)
 have HW3 := z_ (HW.out w3 _ hB3 hT3)
 clear hL2 hb3
 go_wp2_with fail
 refine HW3.out.mono ?_
 rintro e w4 ⟨rfl, hT4, hb4⟩
 rw [List.nil_append] at hT4
 have HS4 := z_ (HS.out w4 _ hT4)
 go_wp2_with fail
 refine HS4.out.mono ?_
 rintro e w5 ⟨rfl, hb5⟩
 go_wp2_with fail
 go_ret
 exact ⟨rfl, (hB3.trans hb4).trans hb5⟩

def bytesL (l : List Int) : List UInt8 := l.map fun n => UInt8.ofNat n.toNat
def leastL (l : List Nat) : List UInt8 := l.map UInt8.ofNat
def grV (g : Gr) : List Value := [.int .i64 g.s, .string ⟨(bytesL g.ahead).toArray⟩, .string ⟨(leastL g.least).toArray⟩]
def grC (G : List Gr) : Array Value := (G.flatMap grV).toArray
set_option maxHeartbeats 4000000 in
theorem gr_any (x : Nat) (hx : x < 3) (w : World) : Calls Tryz.prog 96 #[.int .i64 (x : Int)] w fun e w' => e = .returned (.slice (some ⟨w.heap.size, 0, none⟩) (grF x).length (grF x).length) ∧ w' = w.alloc (.cells (grC (grF x)) 119) := by
 match x, hx with
 | 0, _ =>
  go_enter Tryz.func96, Tryz.ntmps96
  go_wp2
  go_ret
  exact ⟨rfl, rfl⟩
 | 1, _ =>
  go_enter Tryz.func96, Tryz.ntmps96
  go_wp2
  go_ret
  exact ⟨rfl, rfl⟩
 | 2, _ =>
  go_enter Tryz.func96, Tryz.ntmps96
  go_wp2
  go_ret
  exact ⟨rfl, rfl⟩
end Go.Proofs.YtgaihekapakoeaaGreatDoor
namespace Go.Proofs.YtgaihekapakoeaaGreatDoor
open Go.RowKit


set_option maxRecDepth 100000

theorem hlF_lt (s : List UInt8) : (hlF s).2 < 3 := by
 unfold hlF
 split
 ·exact (by decide : 2 < 3)
 ·split
  ·exact (by decide : 1 < 3)
  ·exact (by decide : 0 < 3)
theorem grC_at : ∀ (G : List Gr) (j : Nat) (g : Gr), G[j]? = some g → (G.flatMap grV)[j * 3]? = some (.int .i64 g.s) ∧ (G.flatMap grV)[j * 3 + 1]? = some (.string ⟨(bytesL g.ahead).toArray⟩) ∧ (G.flatMap grV)[j * 3 + 2]? = some (.string ⟨(leastL g.least).toArray⟩)
 | [], j, g, h => by simp at h
 | a :: G, 0, g, h => by
  simp at h
  subst h
  exact ⟨rfl, rfl, rfl⟩
 | a :: G, j + 1, g, h => by
  have ih := grC_at G j g (by simpa using h)
  have e : (a :: G).flatMap grV = grV a ++ G.flatMap grV := rfl
  have hl : (grV a).length = 3 := rfl
  rw [e]
  refine ⟨?_, ?_, ?_⟩
  ·rw [List.getElem?_append_right (by omega), hl, show (j + 1) * 3 - 3 = j * 3 by omega]; exact ih.1
  ·rw [List.getElem?_append_right (by omega), hl, show (j + 1) * 3 + 1 - 3 = j * 3 + 1 by omega]; exact ih.2.1
  ·rw [List.getElem?_append_right (by omega), hl, show (j + 1) * 3 + 2 - 3 = j * 3 + 2 by omega]; exact ih.2.2
theorem ahead_back {x : Nat} {g : Gr} (h : g ∈ grF x) : (bytesL g.ahead).map (fun b => (b.toNat : Int)) = g.ahead ∧ (bytesL g.ahead).length ≤ 100 := by
 obtain ⟨⟨k, hk⟩, -, -, -⟩ := gr_ahead h
 rw [hk]
 have : ∀ k : Fin 7, (bytesL (aheads.getD k.val [])).map (fun b => (b.toNat : Int)) = aheads.getD k.val [] ∧ (bytesL (aheads.getD k.val [])).length ≤ 100 := by decide
 exact this k
theorem least_at (L : List Nat) (k : Nat) (hk : k < L.length) (h : ∀ n ∈ L, n < 256) : ((leastL L).getD k 0).toNat = L.getD k 0 := by
 have hm := h (L.getD k 0) (by rw [List.getD, List.getElem?_eq_getElem hk]; exact List.getElem_mem hk)
 unfold leastL
 rw [List.getD, List.getElem?_map, List.getD, List.getElem?_eq_getElem hk] at *
 exact ofNat_num hm
theorem least_len {x : Nat} {g : Gr} (h : g ∈ grF x) : g.least.length ≤ 100 := by
 unfold grF at h
 split at h
 ·rcases List.mem_cons.1 h with rfl | h
  ·decide
  ·rcases List.mem_cons.1 h with rfl | h
   ·decide
   ·cases h
 ·split at h
  ·rcases List.mem_cons.1 h with rfl | h
   ·decide
   ·rcases List.mem_cons.1 h with rfl | h
    ·decide
    ·cases h
  ·rcases List.mem_cons.1 h with rfl | h
   ·decide
   ·rcases List.mem_cons.1 h with rfl | h
    ·decide
    ·rcases List.mem_cons.1 h with rfl | h
     ·decide
     ·cases h
theorem zO_wf {x : Nat} {g : Gr} (h : g ∈ grF x) {op : Nat} (ho : op < 256) : (zO g.ahead op).Wf := (of_got (z_allB h ho) (z_may h ho).1).wf
set_option maxHeartbeats 8000000 in
theorem ofbare_any (w : World) (hV : VP w w.heap.size) (s : List UInt8) (hs : s.length ≤ 1000) :
  Calls Tryz.prog 52 #[.string ⟨s.toArray⟩] w fun e w' => e = .returned (.tuple #[((bareF s).getD zeroI).val, .bool (bareF s).isSome]) ∧ Below w.heap.size w w' := by
 obtain ⟨R, hR⟩ : ∃ R, bareF s = R := ⟨_, rfl⟩
 rw [hR]
 unfold bareF at hR
 obtain ⟨w1, hw1⟩ : ∃ w1, w.alloc (inO zeroI) = w1 := ⟨_, rfl⟩
 have hb1 : Below w.heap.size w w1 := hw1 ▸ (Below.refl _ _).alloc (Nat.le_refl _) _
 have hr1 : InW w1 w.heap.size zeroI := hw1 ▸ InW.laid w zeroI
 have hV1 := hV.later hb1
 have HH := hl_any w1 hV1 s hs
 have hx := hlF_lt s
 obtain ⟨ptx, hpl⟩ : ∃ p, (hlF s).1 = p := ⟨_, rfl⟩
 obtain ⟨x, hxx⟩ : ∃ x, (hlF s).2 = x := ⟨_, rfl⟩
 rw [hpl, hxx] at HH hR
 rw [hxx] at hx
 have HG := z_ (fun w2 => gr_any x hx w2)
 have hGl : (grF x).length ≤ 3 := by
  match x, hx with
  | 0, _ | 1, _ | 2, _ => decide
 have hGm : ∀ g ∈ grF x, g ∈ grF x := fun _ h => h
 obtain ⟨G, hG⟩ : ∃ G, grF x = G := ⟨_, rfl⟩
 rw [hG] at hR hGl HG
 have HGm := z_ (show ∀ g ∈ G, g ∈ grF x from fun g h => hG ▸ h)
 obtain ⟨n, hn⟩ : ∃ n, G.length = n := ⟨_, rfl⟩
 rw [hn] at HG hGl
 have HH := z_ HH
 have HR := z_ hR
 have HB1 := z_ hb1
 have HR1 := z_ hr1
 have HV1 := z_ hV1
 have HN := z_ hn
 have HSl := z_ hs
 obtain ⟨S, hS⟩ : ∃ S : ByteArray, (⟨s.toArray⟩ : ByteArray) = S := ⟨_, rfl⟩
 have HS := z_ hS
 rw [hS] at HH ⊢
 unfold inO zeroI at hw1
 simp only at hw1
 clear hR hb1 hr1 hV1 hV hn hs hS hpl hxx hGm hG hx
 go_enter Tryz.func52, Tryz.ntmps52
 go_wp2_with (go_at_call 95; (with_reducible refine HH.out.mono ?_); rintro e w2 ⟨rfl, hb2⟩)
 have HB2 := z_ hb2
 clear hb2 hw1
 refine (HG.out w2).mono ?_
 rintro e w3 ⟨rfl, hw3⟩
 have hsz3 : w3.heap.size = w2.heap.size + 1 := by rw [hw3]; simp
 have hrow3 : w3.heap[w2.heap.size]? = some (.cells (grC G) 119 (0, 0)) := hw3 ▸ heap_alloc_new w2 _
 have hB3 : Below w.heap.size w w3 := by
  have h12 := HB1.out.trans (HB2.out.mono HB1.out.size)
  exact hw3 ▸ h12.alloc h12.size _
 have hb23 : Below w1.heap.size w1 w3 := by
  rw [hw3]
  exact HB2.out.alloc HB2.out.size _
 obtain ⟨gb, hgb⟩ : ∃ gb, w2.heap.size = gb := ⟨_, rfl⟩
 rw [hgb] at hsz3 hrow3 ⊢
 have HRow3 := z_ hrow3
 have HB3 := z_ hB3
 have HB23 := z_ hb23
 have HSz3 := z_ hsz3
 clear hrow3 hB3 hb23 hsz3 hgb hw3 HH HB2 HG
 go_wp2_with fail
 go_loopw [20] (fun v wr => ∃ j : Nat, j ≤ n ∧ v = .int .i64 j ∧ M.Base w3 wr ∧ Hid (grpF s ptx (G.drop j) = R)) (fun v _ => n - (intOf v).toNat)
 case atStart => exact ⟨0, by omega, rfl, M.Base.refl _, z_ HR.out⟩
 case round =>
  obtain ⟨j, hj, rfl, hb, hinv⟩ := hrel
  by_cases he : j < n
  ·have hjl : j < G.length := by rw [HN.out]; exact he
   obtain ⟨g, hg⟩ : ∃ g, G[j]? = some g := ⟨_, List.getElem?_eq_getElem hjl⟩
   have hgm := HGm.out g (List.mem_of_getElem? hg)
   have hd : G.drop j = g :: G.drop (j + 1) := by
    rw [List.drop_eq_getElem_cons hjl]
    congr 1
    rw [List.getElem?_eq_getElem hjl] at hg
    exact Option.some.inj hg
   have hR2 : R = match tryF s ptx g g.least with
     | some i => some i
     | none => grpF s ptx (G.drop (j + 1)) := by
    rw [← hinv.out, hd]; rfl
   have hrow : wr.heap[gb]? = some (.cells (grC G) 119 (0, 0)) := (hb.2.block gb (by rw [HSz3.out]; omega)).trans HRow3.out
   obtain ⟨c0, c1, c2⟩ := grC_at G j g hg
   have f0 : wr.cell? ⟨gb, j * 3, none⟩ = some (.int .i64 g.s) := by rw [Lib.cell_of_heap hrow]; unfold grC; rw [List.getElem?_toArray]; exact c0
   have f1 : wr.cell? ⟨gb, j * 3 + 1, none⟩ = some (.string ⟨(bytesL g.ahead).toArray⟩) := by rw [Lib.cell_of_heap hrow]; unfold grC; rw [List.getElem?_toArray]; exact c1
   have f2 : wr.cell? ⟨gb, j * 3 + 2, none⟩ = some (.string ⟨(leastL g.least).toArray⟩) := by rw [Lib.cell_of_heap hrow]; unfold grC; rw [List.getElem?_toArray]; exact c2
   have hB : Below w.heap.size w wr := HB3.out.trans (hb.2.mono HB3.out.size)
   obtain ⟨w4, hw4⟩ : ∃ w4, wr.alloc (.cells #[.int .i64 g.s, .string ⟨(bytesL g.ahead).toArray⟩, .string ⟨(leastL g.least).toArray⟩] 119) = w4 := ⟨_, rfl⟩
   have hrow4 : w4.heap[wr.heap.size]? = some (.cells #[.int .i64 g.s, .string ⟨(bytesL g.ahead).toArray⟩, .string ⟨(leastL g.least).toArray⟩] 119 (0, 0)) := hw4 ▸ heap_alloc_new wr _
   have hB4 : M.Base w3 w4 := hb.below (hw4 ▸ (Below.refl _ _).alloc hb.1 _)
   have hsz4 : w4.heap.size = wr.heap.size + 1 := by rw [← hw4]; simp
   obtain ⟨L, hL⟩ : ∃ L : ByteArray, (⟨(leastL g.least).toArray⟩ : ByteArray) = L := ⟨_, rfl⟩
   obtain ⟨A, hA⟩ : ∃ A : ByteArray, (⟨(bytesL g.ahead).toArray⟩ : ByteArray) = A := ⟨_, rfl⟩
   have hLz : L.size = g.least.length := by rw [← hL]; simp [ByteArray.size, leastL]
   rw [hL] at f2 hw4 hrow4
   rw [hA] at f1 hw4 hrow4
   obtain ⟨m, hm⟩ : ∃ m, g.least.length = m := ⟨_, rfl⟩
   have hmB := least_len hgm
   rw [hm] at hLz hmB
   obtain ⟨gs, hgs⟩ : ∃ gs, g.s = gs := ⟨_, rfl⟩
   rw [hgs] at f0 hw4 hrow4
   obtain ⟨g4, hg4⟩ : ∃ g4, wr.heap.size = g4 := ⟨_, rfl⟩
   rw [hg4] at hrow4 hsz4
   have k0 : w4.cell? ⟨g4, 0, none⟩ = some (.int .i64 gs) := by rw [Lib.cell_of_heap hrow4]; rfl
   have k1 : w4.cell? ⟨g4, 1, none⟩ = some (.string A) := by rw [Lib.cell_of_heap hrow4]; rfl
   have k2 : w4.cell? ⟨g4, 2, none⟩ = some (.string L) := by rw [Lib.cell_of_heap hrow4]; rfl
   have HRow4 := z_ hrow4
   have HB := z_ hB
   have HB4 := z_ hB4
   have HSz4 := z_ hsz4
   have HL := z_ hL
   have HA := z_ hA
   have HM := z_ hm
   have HGs := z_ hgs
   have HGg := z_ hgm
   have HR2 := z_ hR2
   clear hjl hg hgm hd hR2 hrow c0 c1 c2 hB hrow4 hB4 hsz4 hL hA hm hgs hinv hb
   obtain ⟨R2, hRR⟩ : ∃ R2, tryF s ptx g g.least = R2 := ⟨_, rfl⟩
   have HRR := z_ hRR
   clear hRR
   go_wp2_with fail
   go_loopw [27] (fun v wx => ∃ k : Nat, k ≤ m ∧ v = .int .i64 k ∧ M.Base w4 wx ∧ Hid (tryF s ptx g (g.least.drop k) = R2)) (fun v _ => m - (intOf v).toNat)
   case atStart => exact ⟨0, by omega, rfl, M.Base.refl _, z_ HRR.out⟩
   case round =>
    rename World => wr2
    obtain ⟨k, hk, rfl, hbx, hinv⟩ := hrel
    have hBx : Below w.heap.size w wr2 := (HB3.out.trans (HB4.out.2.mono HB3.out.size)).trans (hbx.2.mono (Nat.le_trans HB3.out.size HB4.out.1))
    have HBx := z_ hBx
    have Hbx := z_ hbx
    by_cases hek : k < m
    ·have hkl : k < g.least.length := by rw [HM.out]; exact hek
     obtain ⟨-, hl256, s0, s1⟩ := gr_ahead HGg.out
     obtain ⟨l, hl⟩ : ∃ l, g.least.getD k 0 = l := ⟨_, rfl⟩
     have hl2 : l < 256 := hl ▸ hl256 _ (by rw [List.getD, List.getElem?_eq_getElem hkl]; exact List.getElem_mem hkl)
     have hld : g.least.drop k = l :: g.least.drop (k + 1) := by
      rw [List.drop_eq_getElem_cons hkl]
      congr 1
      rw [List.getD, List.getElem?_eq_getElem hkl] at hl
      exact hl
     have hrun : ∀ w, (Instr.index 9 (.string L) (.int .i64 (k : Int))).run Tryz.prog w = .ok (.int .u8 (l : Int)) w := fun w => by
      rw [← HL.out, index_text (leastL g.least) k (by simp [leastL]; exact hkl) w, least_at g.least k hkl hl256, hl]
     have hstep : R2 = if (alongF ptx g.s l).2 = true ∧ isBytesI (zO g.ahead (alongF ptx g.s l).1) = false ∧ toldT true (zO g.ahead (alongF ptx g.s l).1) = s then some (zO g.ahead (alongF ptx g.s l).1) else tryF s ptx g (g.least.drop (k + 1)) := by
      rw [← hinv.out, hld]; rfl
     have hol := alongF_lt ptx g.s l hl2
     have hwl : wrap64 (l : Int) = l := by unfold wrap64; omega
     have hVx : VP wr2 wr2.heap.size := ((HV1.out.later HB23.out).later HB4.out.2).later hbx.2
     have HVx := z_ hVx
     have HAl := z_ (fun (wz : World) (hz : M.Base wr2 wz) => r_along wz ptx g.s l (hVx.later hz.2).vt s0 s1 hl2)
     have hzo := zo_any
     obtain ⟨o, ho⟩ : ∃ o, (alongF ptx g.s l).1 = o := ⟨_, rfl⟩
     obtain ⟨q, hq⟩ : ∃ q, (alongF ptx g.s l).2 = q := ⟨_, rfl⟩
     rw [ho, hq] at HAl
     rw [ho] at hol
     rw [ho, hq] at hstep
     rw [HGs.out] at HAl
     have f0 : ∀ p : M.Of (M.Base wr2), p.w.cell? ⟨g4, 0, none⟩ = some (.int .i64 gs) := fun p => by
      rw [World.cell?_of_block (p.ok.2.block g4 (by have := hbx.1; rw [HSz4.out] at this; omega)), World.cell?_of_block (hbx.2.block g4 (by rw [HSz4.out]; omega))]
      exact k0
     have f2 : ∀ p : M.Of (M.Base wr2), p.w.cell? ⟨g4, 2, none⟩ = some (.string L) := fun p => by
      rw [World.cell?_of_block (p.ok.2.block g4 (by have := hbx.1; rw [HSz4.out] at this; omega)), World.cell?_of_block (hbx.2.block g4 (by rw [HSz4.out]; omega))]
      exact k2
     have Hst := z_ hstep
     have Hol := z_ hol
     clear hstep hol ho hq hl hl2 hld hkl hl256 s0 s1 hVx hzo hinv hBx hbx
     go_upto_region 8 with fail
     refine M.rg ?_
     refine M.sg [0, 1, 2, 3, 4, 5, 6, 7] 6 ?_
     repeat (go_big_quiet_step (fail))
     refine wpQuiet_nil ?_
     refine M.cm 8 (.tuple #[.int .i64 (o : Int), .bool q]) ?_ ?_
     ·intro wz sz
      unfold Oper.does
      go_simp
      exact (HAl.out wz sz).mono fun e w' ⟨he, hw⟩ => ⟨_, he, rfl, Save.of_below hw⟩
     go_simp
     refine M.sg [9, 10, 11, 12, 13] 0 ?_
     repeat (go_big_quiet_step (fail))
     refine wpQuiet_nil ?_
     refine M.en ?_
     intro wc sc
     have hbc : M.Base w4 wc := Hbx.out.below (sc.2.mono Hbx.out.1)
     have hVc : VP wc wc.heap.size := HVx.out.later sc.2
     have hBc : Below w.heap.size w wc := HBx.out.trans (sc.2.mono HBx.out.size)
     have k1c : wc.cell? ⟨g4, 1, none⟩ = some (.string A) := by
      rw [World.cell?_of_block (hbc.2.block g4 (by rw [HSz4.out]; omega))]
      exact k1
     have Hbc := z_ hbc
     have HVc := z_ hVc
     have HBc := z_ hBc
     have hsl := HSl.out
     clear sc hbc hVc hBc f0 f2 HAl hsl hrun hwl
     cases q with
     | false =>
      have hn2 : R2 = tryF s ptx g (g.least.drop (k + 1)) := by
       rw [Hst.out]
       exact if_neg (fun h => by simp at h)
      have HN2 := z_ hn2
      clear hn2
      go_wp2_with fail
      go_roundw
      case rel => exact ⟨k + 1, by omega, by go_num, Hbc.out, z_ HN2.out.symm⟩
      case measure => simp [intOf]; omega
     | true =>
      have hz := zo_any wc (bytesL g.ahead) (ahead_back HGg.out).2 o Hol.out
      rw [(ahead_back HGg.out).1, HA.out] at hz
      obtain ⟨-, hmay, hzz⟩ := z_may HGg.out Hol.out
      have hwf := zO_wf HGg.out Hol.out
      have hst := Hst.out
      obtain ⟨I, hI⟩ : ∃ I, zO g.ahead o = I := ⟨_, rfl⟩
      rw [hI] at hz hmay hzz hwf hst
      rw [in_val] at hz
      have HZ := z_ hz
      have HMay := z_ hmay
      have HWf := z_ hwf
      have HSt := z_ hst
      clear hz hmay hwf hst hI hzz
      go_wp2_with fail
      refine HZ.out.mono ?_
      rintro e w6 ⟨rfl, hb6⟩
      obtain ⟨w7, hw7⟩ : ∃ w7, w6.alloc (inO I) = w7 := ⟨_, rfl⟩
      have hr7 : InW w7 w6.heap.size I := hw7 ▸ InW.laid w6 I
      have hb7 : Below wc.heap.size wc w7 := hw7 ▸ hb6.alloc hb6.size _
      have hb47 : M.Base w4 w7 := Hbc.out.below (hb7.mono Hbc.out.1)
      have hB7 : Below w.heap.size w w7 := HBc.out.trans (hb7.mono HBc.out.size)
      have hV7 : VP w7 w7.heap.size := HVc.out.later hb7
      have hIs := isbytes_any I HMay.out HWf.out w7 hV7.vt
      rw [in_val] at hIs
      obtain ⟨bb, hbb⟩ : ∃ bb, isBytesI I = bb := ⟨_, rfl⟩
      rw [hbb] at hIs
      have HBB := z_ hbb
      have HIs := z_ hIs
      have HR7 := z_ hr7
      have HB47 := z_ hb47
      have HB7 := z_ hB7
      have HV7 := z_ hV7
      unfold inO at hw7
      clear hr7 hb7 hb47 hB7 hV7 hIs hbb hb6 HZ k1c
      go_wp2_with (refine lr w6.heap.size rfl rfl rfl HR7.out ?_)
      refine HIs.out.mono ?_
      rintro e w8 ⟨rfl, hb8⟩
      have hr8 : InW w8 w6.heap.size I := HR7.out.below hb8 HR7.out.lt
      have HR8 := z_ hr8
      have HB48 := z_ (HB47.out.below (hb8.mono HB47.out.1))
      have HB8 := z_ (HB7.out.trans (hb8.mono HB7.out.size))
      have HV8 := z_ (HV7.out.later hb8)
      clear hb8 hr8 HIs hw7 HR7
      cases bb with
      | true =>
       have hn2 : R2 = tryF s ptx g (g.least.drop (k + 1)) := by
        rw [HSt.out]
        exact if_neg (fun h => by have := h.2.1; rw [HBB.out] at this; cases this)
       have HN2 := z_ hn2
       clear hn2
       go_wp2_with fail
       go_roundw
       case rel => exact ⟨k + 1, by omega, by go_num, HB48.out, z_ HN2.out.symm⟩
       case measure => simp [intOf]; omega
      | false =>
       obtain ⟨i1, i2, i3⟩ := may_one HMay.out
       obtain ⟨hs4, hx4, o0, o1⟩ := one_cases i1
       have hdb : dbK I.s I.x I.o = false := by rw [← isBytes_db HMay.out]; exact HBB.out
       have hne : toldT true I ≠ [] := by rw [bare_told]; exact (bare_parts i1 hdb).2.2.2.1
       have htb := toldbare_any I HWf.out w8 HV8.out.vt (by omega) (by omega) (by omega) (by omega) o0 o1 hne
       rw [in_val] at htb
       have heq := toList_beq (toldT true I) s
       rw [HS.out] at heq
       obtain ⟨T, hT⟩ : ∃ T : ByteArray, (⟨(toldT true I).toArray⟩ : ByteArray) = T := ⟨_, rfl⟩
       rw [hT] at htb heq
       obtain ⟨qq, hqq⟩ : ∃ qq, decide (toldT true I = s) = qq := ⟨_, rfl⟩
       rw [hqq] at heq
       have HTb := z_ htb
       have HQQ := z_ hqq
       clear htb hT hqq i1 i2 i3 hs4 hx4 o0 o1 hdb hne
       go_wp2_with (refine wpList_load_ins (by kernel_rfl) 23 _ rfl w6.heap.size rfl _ _ (0, 0) _ HR8.out Tryz.underlying23 rfl in_info ?_)
       refine HTb.out.mono ?_
       rintro e w9 ⟨rfl, hb9⟩
       have HR9 := z_ (HR8.out.below hb9 HR8.out.lt)
       have HB49 := z_ (HB48.out.below (hb9.mono HB48.out.1))
       have HB9 := z_ (HB8.out.trans (hb9.mono HB8.out.size))
       clear hb9 HTb
       cases qq with
       | false =>
        have hn2 : R2 = tryF s ptx g (g.least.drop (k + 1)) := by
         rw [HSt.out]
         exact if_neg (fun h => of_decide_eq_false HQQ.out h.2.2)
        have HN2 := z_ hn2
        clear hn2
        go_wp2_with fail
        go_roundw
        case rel => exact ⟨k + 1, by omega, by go_num, HB49.out, z_ HN2.out.symm⟩
        case measure => simp [intOf]; omega
       | true =>
        have hn2 : R = some I := by
         have h2 : R2 = some I := by
          rw [HSt.out]
          exact if_pos ⟨trivial, HBB.out, of_decide_eq_true HQQ.out⟩
         rw [HR2.out, HRR.out, h2]
        have HN2 := z_ hn2
        have hz9 : InW w9 w.heap.size zeroI := HR1.out.keep ((HB49.out.2.block _ (by have := HB23.out.size; have := HB4.out.1; have := HR1.out.lt; omega)).trans ((HB4.out.2.block _ (by have := HB23.out.size; have := HR1.out.lt; omega)).trans (HB23.out.block _ HR1.out.lt)))
        have HZ9 := z_ hz9
        clear hn2 hz9
        go_wp2_with (first
         | (refine lr w6.heap.size rfl rfl rfl HR9.out ?_)
         | (refine sr w.heap.size rfl rfl rfl rfl HZ9.out (in_one _) ?_))
        (try simp only [Exit.inBlock, Exit.then])
        exact bodyPost_ret (results_ins_tmp rfl _ _ _ I _ rfl rfl (setRow_heap _ _ _ _ _ _ HZ9.out)) rfl ⟨by rw [HN2.out]; rfl, below_setRow HB9.out (Nat.le_refl _) _⟩
    ·obtain rfl : k = m := by omega
     have hn2 : R2 = none := by
      rw [← hinv.out, ← HM.out, List.drop_length]; rfl
     have hn3 : R = grpF s ptx (G.drop (j + 1)) := by
      rw [HR2.out, HRR.out, hn2]
     have HN3 := z_ hn3
     have Hw := z_ (HB4.out.below (hbx.2.mono HB4.out.1))
     clear hn2 hn3 hbx hBx hinv
     go_wp2_with fail
     go_roundw
     case rel => exact ⟨j + 1, by omega, by go_num, Hw.out, z_ HN3.out.symm⟩
     case measure => simp [intOf]; omega
  ·obtain rfl : j = n := by omega
   have hn3 : R = none := by
    rw [← hinv.out, ← HN.out, List.drop_length]; rfl
   have HN3 := z_ hn3
   have hz9 : InW wr w.heap.size zeroI := HR1.out.keep ((hb.2.block _ (by have := HB23.out.size; have := HR1.out.lt; omega)).trans (HB23.out.block _ HR1.out.lt))
   have HZ9 := z_ hz9
   have HB9 := z_ (HB3.out.trans (hb.2.mono HB3.out.size))
   clear hn3 hz9 hb hinv
   go_wp2_with (refine sr w.heap.size rfl rfl rfl rfl HZ9.out (in_one zeroI) ?_)
   (try simp only [Exit.inBlock, Exit.then])
   exact bodyPost_ret (results_ins_tmp rfl _ _ _ zeroI _ rfl rfl (setRow_heap _ _ _ _ _ _ HZ9.out)) rfl ⟨by rw [HN3.out]; rfl, below_setRow HB9.out (Nat.le_refl _) _⟩
end Go.Proofs.YtgaihekapakoeaaGreatDoor
