/-
  slices.Insert of one byte into a row of one's own.
-/
import Derived.Test.YtlcgihdphdkhpaaCopy7
import Derived.Test.YtlcgihdphdkhpaaRows2
import Derived.Test.YtlcgihdphdkhpaaFlat
import Derived.Test.YtlcgihdphdkhpaaBase
import Derived.Deep.RegionHeld
namespace Go.Proofs.Ytlcgihdphdkhpaa
open Go.RowKit

theorem own_some8 {w : World} {base n c size : Nat} {e : TypeId} {A : Option Addr} {xs : List Value} (h : w.ownsRow base e size (.slice A n c) n xs) (hn : 0 < n) : ∃ g, A = some ⟨g, 0, none⟩ ∧ base ≤ g := by
  rcases h.2 with ⟨h0, h1⟩ | ⟨g, cap, cur, h0, hb, _⟩
  · omega
  · injection h0 with h0
    exact ⟨g, h0, hb⟩
theorem bv_ins (l : List UInt8) (i : Nat) (d : UInt8) : (bv l).take i ++ bv [d] ++ (bv l).drop i = bv (l.take i ++ d :: l.drop i) := by
  rw [← bv_take, ← bv_drop, ← bv_append, ← bv_append, List.append_assoc]
  rfl

set_option maxRecDepth 100000 in
set_option maxHeartbeats 3200000 in
/-- at the end -/
theorem insEnd8 (A B : Option Addr) (n c bc : Nat) (l : List UInt8) (d : UInt8) (lo b : Nat) (w : World) (h : w.ownsRow lo 5 1 (.slice A n c) n (bv l)) (hn : n ≤ 100) (hlo : lo ≤ w.heap.size) (hs : Sees w b B (bv [d])) :
    Calls Try.prog 72 #[.slice A n c, .int .i64 n, .slice B 1 bc] w fun e w' => ∃ A' c', e = .returned (.slice A' (n + 1) c') ∧ w'.ownsRow lo 5 1 (.slice A' (n + 1) c') (n + 1) (bv (l ++ [d])) ∧ w.grownBy w' (Value.slice A n c).ownBlock := by
  have HO := hide_ h
  have HS := hide_ hs
  have H1 := hide_ (show ∀ u ∈ bv [d], u.oneCell' = true from fun u hu => bv_oneCell [d] u hu)
  have HYS := hide_ (show bv l ++ bv [d] = bv (l ++ [d]) by rw [bv_append])
  have hcn : n ≤ c := own_cap h
  have hc63 : c ≤ 9223372036854775807 := by rcases h.2 with ⟨h0, rfl⟩ | ⟨g, cap, cur, h0, _, _, _, hm, _⟩ <;> injection h0 with _ _ h0 <;> (try unfold maxLen at hm) <;> omega
  clear h hs
  by_cases hc : n = c
  case pos =>
    subst hc
    go_enter Try.func72, Try.ntmps72
    go_wp2_with (at_builtin; refine wpList_append_grown _ rfl _ _ 23 rfl lo 5 (.int .u8 0) 1 1 u8_info rfl (by omega) Try.underlying23 _ n (bv l) rfl HO.out b B 1 bc (bv [d]) rfl rfl HS.out H1.out (by omega) (by omega) hlo (n + 1) (by omega) (bv (l ++ [d])) HYS.out ?_; intro A5 c5 w1 hown hb)
    go_ret
    exact ⟨_, _, rfl, by assumption, by assumption⟩
  go_enter Try.func72, Try.ntmps72
  go_wp2_with (at_builtin; refine wpList_append_grown _ rfl _ _ 23 rfl lo 5 (.int .u8 0) 1 1 u8_info rfl (by omega) Try.underlying23 _ n (bv l) rfl HO.out b B 1 bc (bv [d]) rfl rfl HS.out H1.out (by omega) (by omega) hlo (n + 1) (by omega) (bv (l ++ [d])) HYS.out ?_; intro A5 c5 w1 hown hb)
  go_ret
  exact ⟨_, _, rfl, by assumption, by assumption⟩


set_option maxRecDepth 100000 in
set_option maxHeartbeats 6400000 in
/-- ahead of others, where there is room -/
theorem insRoom8 (g vb n c bc i : Nat) (l : List UInt8) (d : UInt8) (lo : Nat) (w : World) (T2 : TypeId) (h : w.ownsRow lo 5 1 (.slice (some ⟨g, 0, none⟩) n c) n (bv l)) (hn : n ≤ 100) (hi : i < n) (hroom : n + 1 ≤ c)
    (hb : BoxAt w vb (bv [d]).toArray T2) (hne : vb ≠ g) :
    Calls Try.prog 72 #[.slice (some ⟨g, 0, none⟩) n c, .int .i64 i, .slice (some ⟨vb, 0, none⟩) 1 bc] w fun e w' => ∃ A' c', e = .returned (.slice A' (n + 1) c') ∧ w'.ownsRow lo 5 1 (.slice A' (n + 1) c') (n + 1) (bv (l.take i ++ d :: l.drop i)) ∧ w.grownBy w' (some g) := by
  obtain ⟨hlen, h0 | ⟨g', cap, cur, h0, hlog, hg, hnc, hcm, hcs, htake⟩⟩ := h
  · exact absurd h0.1 (by simp)
  simp only [Value.slice.injEq, Option.some.injEq, Addr.mk.injEq, and_true, true_and] at h0
  obtain ⟨rfl, rfl⟩ := h0
  rw [Nat.mul_one] at htake hcs
  have hc63 : c ≤ 9223372036854775807 := by unfold maxLen at hcm; omega
  obtain ⟨i0, hi0, hz0, hz1, hz2⟩ := info_parts u8_info
  have hsz : (Try.prog.info? 5).map (·.size) = some 1 := by rw [hi0]; simp [hz1]
  have hq : (bv [d]).length = 1 := rfl
  have hxl : (bv l).length = n := by rw [hlen, Nat.mul_one]
  have hone : ∀ u ∈ bv l, u.oneCell' = true := bv_oneCell l
  -- the first copy
  obtain ⟨W1, hc1, hW1, hg1, hs1⟩ := run_copy_named (P := Try.prog) w.drew 23 23 5 1 g (i + 1) (n - i) (c - (i + 1)) ⟨g, i, none⟩ (n + 1 - i) (c - i) (n - i) cur 5 ((bv l).drop i) Try.underlying23 hsz hg
    (by simp only [Nat.min_def]; split <;> omega) (by rw [List.length_drop, hxl]; omega)
    (fun j v hj => by
      rw [Addr.add_lit, cell_of_row w.drew g _ cur 5 (0, 0) hg]
      rw [List.getElem?_drop, ← htake, List.getElem?_take] at hj
      split at hj
      · rw [← Array.getElem?_toList]; exact hj
      · cases hj)
    (by rw [List.length_drop, hxl, hcs]; omega) (fun v hv => hone v (List.mem_of_mem_drop hv))
  have hb1 : BoxAt W1 vb (bv [d]).toArray T2 := (hg1.block vb (show vb < w.drew.heap.size from hb.lt) (by simpa using hne)).trans hb
  obtain ⟨C1, hC1⟩ : ∃ C1, cur.toList.take (i + 1) ++ (bv l).drop i ++ cur.toList.drop ((i + 1) + ((bv l).drop i).length) = C1 := ⟨_, rfl⟩
  rw [hC1] at hW1
  have hC1l : C1.length = c := by
    rw [← hC1]
    simp only [List.length_append, List.length_take, List.length_drop, hxl, Array.length_toList, hcs]
    omega
  obtain ⟨W2, hc2, hW2, hg2, hs2⟩ := run_copy_named (P := Try.prog) W1 23 23 5 1 g i (n + 1 - i) (c - i) ⟨vb, 0, none⟩ 1 bc 1 C1.toArray 5 (bv [d]) Try.underlying23 hsz hW1
    (by simp only [Nat.min_def]; split <;> omega) (by rw [hq])
    (fun j v hj => by
      rw [Addr.add_lit, Nat.zero_add, hb1.cell]
      simpa using hj)
    (by rw [hq, List.size_toArray, hC1l]; omega) (fun u hu => bv_oneCell [d] u hu)
  obtain ⟨C2, hC2⟩ : ∃ C2, C1.toArray.toList.take i ++ bv [d] ++ C1.toArray.toList.drop (i + (bv [d]).length) = C2 := ⟨_, rfl⟩
  rw [hC2] at hW2
  have hrow := row_shift (N := n) (a := i) (q := 1) (cur := cur.toList) (xs := bv l) (d := bv [d]) htake hq (by omega) (by rw [Array.length_toList, hcs]; omega) (c1 := C1) (c2 := C2) hC1 hC2
  rw [bv_ins] at hrow
  have HOUT := hide_ (show W2.ownsRow lo 5 1 (.slice (some ⟨g, 0, none⟩) (n + 1) c) (n + 1) (bv (l.take i ++ d :: l.drop i)) from
    ⟨by rw [bv_length]; simp only [List.length_append, List.length_cons, List.length_take, List.length_drop]; rw [bv_length] at hxl; omega, .inr ⟨g, c, C2.toArray, rfl, hlog, hW2, hroom, hcm, by rw [List.size_toArray, hrow.2.1, Array.length_toList, hcs, Nat.mul_one], by rw [Nat.mul_one]; exact hrow.2.2⟩⟩)
  have HG := hide_ (show w.grownBy W2 (some g) from ⟨hg2.os.trans hg1.os, hg2.tape.trans hg1.tape, hg2.output.trans hg1.output, by rw [hs2, hs1]; exact Nat.le_refl _, fun k hk hne => (hg2.block k (by rw [hs1]; exact hk) hne).trans (hg1.block k hk hne)⟩)
  have hov : ∀ lb cb, (callFunc 89 #[.slice (some ⟨vb, 0, none⟩) 1 bc, .slice (some ⟨g, (i + 1), none⟩) lb cb]).run Try.prog w = .ok (.value (.bool false)) w := fun lb cb => by
    rw [run_callFunc_extern Try.func89 (by kernel_rfl) (by kernel_rfl) (by kernel_rfl) (e := Extern.SlicesOverlaps.overlaps #[23, 23] #[4]) (by kernel_rfl),
      Lib.run_overlaps_apart w 23 4 5 Try.underlying23 1 (fun w => by simp [sizeOf, typeInfo, hi0, hz1]) ⟨vb, 0, none⟩ ⟨g, (i + 1), none⟩ 1 bc lb cb hne T2 5 1 (c) (by unfold BoxAt at hb; simp [World.shape?, hb]; exact hq) (by simp [World.shape?, hg, hcs]) (by omega) (by unfold BoxAt at hb; simp [World.frozen?, hb]) (by unfold BoxAt at hb; simp [World.frozen?, hb])]
    rfl
  clear hlen hlog hg hcm hcs htake hb hW1 hW2 hg1 hg2 hs1 hs2 hC1 hC2 hC1l hrow hb1 hxl hone hi0 hz0 hz1 hz2 hsz hq
  have hz2 : ¬ ((i : Int) = (n : Int)) := by omega
  have hin : i ≤ n := by omega
  have hw1 : IntKind.i64.wrap ((i : Int) + 1) = (i : Int) + 1 := by rw [IntKind.wrap_i64]; omega
  have hb1 : (0 : Int) ≤ (i : Int) + 1 := by omega
  have htn : ((i : Int) + 1).toNat = i + 1 := by omega
  have hb2 : ¬ (c = i + 1) := by omega
  have hb3 : (i : Int) ≤ (n : Int) + 1 := by omega
  have hb4 : ¬ (c = i) := by omega
  go_enter Try.func72, Try.ntmps72
  go_wp2_with (simp only [hov])
  go_region
  go_wp2
  go_ret
  exact ⟨_, _, rfl, HOUT.out, HG.out⟩


set_option maxRecDepth 100000 in
set_option maxHeartbeats 6400000 in
/-- ahead of others, where there is no room -/
theorem insGrow8 (g vb n bc i : Nat) (l : List UInt8) (d : UInt8) (lo : Nat) (w : World) (T2 : TypeId) (h : w.ownsRow lo 5 1 (.slice (some ⟨g, 0, none⟩) n n) n (bv l)) (hn : n ≤ 100) (hlo : lo ≤ w.heap.size) (hi : i < n)
    (hb : BoxAt w vb (bv [d]).toArray T2) :
    Calls Try.prog 72 #[.slice (some ⟨g, 0, none⟩) n n, .int .i64 i, .slice (some ⟨vb, 0, none⟩) 1 bc] w fun e w' => ∃ A' c', e = .returned (.slice A' (n + 1) c') ∧ w'.ownsRow lo 5 1 (.slice A' (n + 1) c') (n + 1) (bv (l.take i ++ d :: l.drop i)) ∧ w.grownBy w' (some g) := by
  obtain ⟨hlen, h0 | ⟨g', cap, cur, h0, hlog, hg, hnc, hcm, hcs, htake⟩⟩ := h
  · exact absurd h0.1 (by simp)
  simp only [Value.slice.injEq, Option.some.injEq, Addr.mk.injEq, and_true, true_and] at h0
  obtain ⟨rfl, rfl⟩ := h0
  rw [Nat.mul_one] at htake hcs
  obtain ⟨i0, hi0, hz0, hz1, hz2⟩ := info_parts u8_info
  have hsz : (Try.prog.info? 5).map (·.size) = some 1 := by rw [hi0]; simp [hz1]
  have hq : (bv [d]).length = 1 := rfl
  have hxl : (bv l).length = n := by rw [hlen, Nat.mul_one]
  have hone : ∀ u ∈ bv l, u.oneCell' = true := bv_oneCell l
  have hgw : g < w.heap.size := (Array.getElem?_eq_some_iff.1 hg).1
  have hik : i + (n + 1 - i) = n + 1 := by omega
  have hkk : (n : Int) + 1 - (i : Int) = ((n + 1 - i : Nat) : Int) := by omega
  have hold : (Builtin.firstCells i0.size i (.slice (some ⟨g, 0, none⟩) i n)).run Try.prog w.drew = .ok ((bv l).take i).toArray w.drew := by
    rw [hz1]
    refine run_firstCells_some w.drew 1 i ⟨g, 0, none⟩ i n _ (by rw [List.length_take, hxl]; omega) (fun j v hj => ?_)
    rw [Addr.add_lit, Nat.zero_add, cell_of_row w.drew g _ cur 5 (0, 0) hg]
    rw [List.getElem?_take] at hj
    split at hj
    · rw [← htake, List.getElem?_take] at hj
      split at hj
      · rw [← Array.getElem?_toList]; exact hj
      · cases hj
    · cases hj
  obtain ⟨G, hG⟩ : ∃ G, grownCap w (n + 1) n 5 = G := ⟨_, rfl⟩
  have hGn : n + 1 ≤ G := by rw [← hG]; exact grownCap_ge w _ _ _
  have hGm : G ≤ maxLen := by rw [← hG]; exact grownCap_le_maxLen w _ _ _ (by unfold maxLen; omega)
  obtain ⟨ROW, hROW⟩ : ∃ ROW : Array Value, ((bv l).take i).toArray ++ Builtin.zeroCells ((.int .u8 0) : Value).cells (n + 1 - i) ++ Builtin.zeroCells ((.int .u8 0) : Value).cells (G - (n + 1)) = ROW := ⟨_, rfl⟩
  obtain ⟨W1, hW1⟩ : ∃ W1, w.drew.alloc (.cells ROW 5) = W1 := ⟨_, rfl⟩
  have hrz : ∀ ty, (Builtin.append_ #[23, 3] ty #[.slice (some ⟨g, 0, none⟩) i n, .int .i64 ((n : Int) + 1 - (i : Int))]).run Try.prog w = .ok (.slice (some ⟨w.heap.size, 0, none⟩) (n + 1) G) W1 := fun ty => by
    have h := Lib.run_append_grow_zeros w 23 3 ty 5 i0 _ .i64 .i64 Try.underlying23 Try.underlying3 hi0 hz0 (some ⟨g, 0, none⟩) i n _ hold (n + 1 - i) (by omega) (by omega) (by omega) (by omega) (by rw [hz2]; omega) (by rw [hz2, hik]; exact growslice_fits (by omega) (by omega))
    rw [hik, hG, hROW, hW1] at h
    rw [hkk]
    exact h
  have hzc : (((.int .u8 0) : Value).cells).size = 1 := rfl
  have hRl : ROW.size = G := by
    rw [← hROW]
    simp only [Array.size_append, List.size_toArray, List.length_take, hxl, Builtin.zeroCells, Array.size_map, Array.size_range, hzc]
    omega
  have hRt : ROW.toList.take i = (bv l).take i := by
    rw [← hROW]
    simp only [Array.toList_append]
    rw [List.append_assoc, List.take_append_of_le_length (by rw [List.length_take, hxl]; omega), List.take_of_length_le (by rw [List.length_take, hxl]; omega)]
  have hg0 : w.grownBy W1 (some g) := by
    rw [← hW1]
    exact ⟨rfl, rfl, rfl, by simp, fun k hk _ => heap_alloc_old w.drew _ hk⟩
  have hr1 : W1.heap[w.heap.size]? = some (.cells ROW 5 (0, 0)) := by
    rw [← hW1]
    exact heap_alloc_new w.drew _
  have hb1 : BoxAt W1 vb (bv [d]).toArray T2 := by
    rw [← hW1]
    exact (heap_alloc_old w.drew _ hb.lt).trans hb
  have ho1 : W1.heap[g]? = some (.cells cur 5 (0, 0)) := by
    rw [← hW1]
    exact (heap_alloc_old w.drew _ hgw).trans hg
  have hsz1 : W1.heap.size = w.heap.size + 1 := by rw [← hW1]; simp
  obtain ⟨W2, hc1, hW2, hg1, hs1⟩ := run_copy_named (P := Try.prog) W1 23 23 5 1 w.heap.size i (n + 1 - i) (G - i) ⟨vb, 0, none⟩ 1 bc 1 ROW 5 (bv [d]) Try.underlying23 hsz hr1
    (by simp only [Nat.min_def]; split <;> omega) (by rw [hq])
    (fun j v hj => by
      rw [Addr.add_lit, Nat.zero_add, hb1.cell]
      simpa using hj)
    (by rw [hq, hRl]; omega) (fun u hu => bv_oneCell [d] u hu)
  obtain ⟨C1, hC1⟩ : ∃ C1, ROW.toList.take i ++ bv [d] ++ ROW.toList.drop (i + (bv [d]).length) = C1 := ⟨_, rfl⟩
  rw [hC1] at hW2
  have ho2 : W2.heap[g]? = some (.cells cur 5 (0, 0)) := (hg1.block g (by rw [hsz1]; omega) (by simp; omega)).trans ho1
  have hC1l : C1.length = G := by
    rw [← hC1]
    simp only [List.length_append, List.length_take, List.length_drop, Array.length_toList, hRl, hq]
    omega
  obtain ⟨W3, hc2, hW3, hg2, hs2⟩ := run_copy_named (P := Try.prog) W2.drew 23 23 5 1 w.heap.size (i + 1) (n - i) (G - (i + 1)) ⟨g, i, none⟩ (n - i) (n - i) (n - i) C1.toArray 5 ((bv l).drop i) Try.underlying23 hsz hW2
    (by simp only [Nat.min_def]; split <;> omega) (by rw [List.length_drop, hxl]; omega)
    (fun j v hj => by
      rw [Addr.add_lit, cell_of_row W2.drew g _ cur 5 (0, 0) ho2]
      rw [List.getElem?_drop, ← htake, List.getElem?_take] at hj
      split at hj
      · rw [← Array.getElem?_toList]; exact hj
      · cases hj)
    (by rw [List.length_drop, hxl, List.size_toArray, hC1l]; omega) (fun v hv => hone v (List.mem_of_mem_drop hv))
  obtain ⟨C2, hC2⟩ : ∃ C2, C1.toArray.toList.take (i + 1) ++ (bv l).drop i ++ C1.toArray.toList.drop ((i + 1) + ((bv l).drop i).length) = C2 := ⟨_, rfl⟩
  rw [hC2] at hW3
  have hrow := row_new (N := n) (a := i) (q := 1) (cur := ROW.toList) (xs := bv l) (d := bv [d]) hRt hxl hq (by omega) (by rw [Array.length_toList, hRl]; omega) (c1 := C1) (c2 := C2) hC1 hC2
  rw [bv_ins] at hrow
  have HOUT := hide_ (show W3.ownsRow lo 5 1 (.slice (some ⟨w.heap.size, 0, none⟩) (n + 1) G) (n + 1) (bv (l.take i ++ d :: l.drop i)) from
    ⟨by rw [bv_length]; simp only [List.length_append, List.length_cons, List.length_take, List.length_drop]; rw [bv_length] at hxl; omega, .inr ⟨w.heap.size, G, C2.toArray, rfl, hlo, hW3, hGn, hGm, by rw [List.size_toArray, hrow.2.1, Array.length_toList, hRl, Nat.mul_one], by rw [Nat.mul_one]; exact hrow.2.2⟩⟩)
  have hsz2 : W2.heap.size = w.heap.size + 1 := by rw [hs1, hsz1]
  have HG := hide_ (show w.grownBy W3 (some g) from ⟨(hg2.os.trans hg1.os).trans hg0.os, (hg2.tape.trans hg1.tape).trans hg0.tape, (hg2.output.trans hg1.output).trans hg0.output, by rw [hs2]; show w.heap.size ≤ W2.heap.size; omega, fun k hk hne =>
    ((hg2.block k (show k < W2.heap.size by omega) (by simp; omega)).trans (hg1.block k (by omega) (by simp; omega))).trans (hg0.block k hk hne)⟩)
  have hc63 : G ≤ 9223372036854775807 := by unfold maxLen at hGm; omega
  clear hlen hlog hg hcm hcs htake hb hW1 hW2 hW3 hg0 hg1 hg2 hs1 hs2 hC1 hC2 hC1l hrow hb1 hxl hone hi0 hz0 hz1 hz2 hsz hq hold hG hROW hRl hRt hr1 ho1 ho2 hsz1 hsz2 hGm hzc hik hkk hgw
  have hz2 : ¬ ((i : Int) = (n : Int)) := by omega
  have hin : i ≤ n := by omega
  have hw1 : IntKind.i64.wrap ((i : Int) + 1) = (i : Int) + 1 := by rw [IntKind.wrap_i64]; omega
  have hb1 : (0 : Int) ≤ (i : Int) + 1 := by omega
  have htn : ((i : Int) + 1).toNat = i + 1 := by omega
  have hb2 : ¬ (G = i + 1) := by omega
  have hb3 : (i : Int) ≤ (n : Int) + 1 := by omega
  have hb4 : ¬ (G = i) := by omega
  have hb5 : ¬ (n = i) := by omega
  have hb6 : (n : Int) < (n : Int) + 1 := by omega
  go_enter Try.func72, Try.ntmps72
  go_wp2_with (at_builtin; refine wpList_append_known _ rfl _ _ 23 3 rfl _ _ rfl rfl hrz ?_)
  go_region
  go_wp2
  go_ret
  exact ⟨_, _, rfl, HOUT.out, HG.out⟩


theorem ins8_any (A : Option Addr) (n c bc i vb : Nat) (l : List UInt8) (d : UInt8) (lo : Nat) (w : World) (T2 : TypeId) (h : w.ownsRow lo 5 1 (.slice A n c) n (bv l)) (hl : l.length = n) (hn : n ≤ 100) (hlo : lo ≤ w.heap.size) (hi : i ≤ n)
    (hb : BoxAt w vb (bv [d]).toArray T2) (hne : (Value.slice A n c).ownBlock ≠ some vb) :
    Calls Try.prog 72 #[.slice A n c, .int .i64 i, .slice (some ⟨vb, 0, none⟩) 1 bc] w fun e w' => ∃ A' c', e = .returned (.slice A' (n + 1) c') ∧ w'.ownsRow lo 5 1 (.slice A' (n + 1) c') (n + 1) (bv (l.take i ++ d :: l.drop i)) ∧ w.grownBy w' (Value.slice A n c).ownBlock := by
  by_cases hin : i = n
  · subst hin
    rw [List.take_of_length_le (by omega), List.drop_eq_nil_of_le (by omega)]
    exact insEnd8 A _ i c bc l d lo (vb + 1) w h hn hlo (fun _ => ⟨⟨vb, 0, none⟩, rfl, Nat.lt_succ_self _, fun j u hj => by
      rw [Addr.add_lit, Nat.zero_add, hb.cell]
      simpa using hj⟩)
  · obtain ⟨g, rfl, _⟩ := own_some8 h (by omega)
    by_cases hc : n + 1 ≤ c
    · exact insRoom8 g vb n c bc i l d lo w T2 h hn (by omega) hc hb (fun e => hne (by rw [e]; rfl))
    · have hc2 : c = n := by have := own_cap h; omega
      subst hc2
      exact insGrow8 g vb c bc i l d lo w T2 h hn hlo (by omega) hb


end Go.Proofs.Ytlcgihdphdkhpaa
