/-
  slices.Clone, BinarySearch and Delete at bytes.
-/
import Derived.Test.YtlcgihdphdkhpaaIns8
import Derived.Test.YtlcgihdphdkhpaaClearN
import Derived.Test.YtlcgihdphdkhpaaSort8
import Derived.Deep.RegionLaw
import Derived.Laws.OwnMore
namespace Go.Proofs.Ytlcgihdphdkhpaa
open Go.RowKit

set_option maxRecDepth 100000 in
theorem clone8_any (l : List UInt8) (B : Nat) (A : Option Addr) (n c : Nat) (w : World) (hn : l.length = n) (hm : n ≤ 100000) (hs : Sees w B A (bv l)) (hB : B ≤ w.heap.size) :
    Calls Try.prog 46 #[.slice A n c] w fun e w' => ∃ A' c', e = .returned (.slice A' n c') ∧ w'.ownsRow w.heap.size 5 1 (.slice A' n c') n (bv l) ∧ Below w.heap.size w w' := by
  have q22 : ∀ (w : World) (a : Option Addr) (n c n' c' : Nat), (binOp .eql 23 (.slice a n c) (.slice none n' c')).run Try.prog w = .ok (.bool a.isNone) w := fun w a n c n' c' => Lib.run_eql_slice_nil w _ _ a n c n' c' Try.underlying23
  rcases A with _ | ad
  · have h0 : l = [] := by
      rcases l with _ | ⟨x, l⟩
      · rfl
      · obtain ⟨ad, h', _⟩ := hs (by simp [bv])
        cases h'
    subst h0
    simp at hn
    subst hn
    go_enter Try.func46, Try.ntmps46
    go_wp2
    go_ret
    exact ⟨_, _, rfl, World.ownsRow_nil _ _ _ _, Below.refl _ _⟩
  · have HS := hide_ hs
    have HM := hide_ hn
    clear hs hn
    have H1 := hide_ (World.ownsRow_lit (base := w.heap.size) (e := 5) (size := 1) w #[] 0 (Nat.le_refl _) (by simp [maxLen]) (by simp))
    have H2 := hide_ (show (bv l).length = n * 1 by rw [bv_length, HM.out]; omega)
    have H3 := hide_ (HS.out.below ((Below.refl _ _).alloc hB (.cells #[] 5)))
    have HB1 := hide_ ((Below.refl w.heap.size w).alloc (Nat.le_refl _) (.cells #[] 5))
    go_enter Try.func46, Try.ntmps46
    go_wp2_with (at_builtin; refine wpList_append_cells _ rfl _ _ 23 rfl w.heap.size 5 (.int .u8 0) 1 1 u8_info rfl (by omega) Try.underlying23 _ 0 [] rfl H1.out B (some ad) n c (bv l) rfl H2.out H3.out (bv_oneCell l) (by omega) (by omega) (by simp) n (by omega) (bv l) rfl ?_; intro A' c' w1 hown hb)
    go_ret
    exact ⟨_, _, rfl, by assumption, HB1.out.trans (by assumption)⟩

/-- deleting one -/
theorem del_row {cur xs : List Value} {n i : Nat} (hx : cur.take n = xs) (hl : xs.length = n) (hi : i < n) {c1 : List Value} (h1 : cur.take i ++ xs.drop (i + 1) ++ cur.drop (i + (xs.drop (i + 1)).length) = c1) :
    c1.length = cur.length ∧ c1.take (n - 1) = xs.take i ++ xs.drop (i + 1) := by
  have hc : n ≤ cur.length := by rw [← hx, List.length_take] at hl; omega
  have e : cur.take i = xs.take i := by rw [← hx, List.take_take, Nat.min_eq_left (by omega)]
  rw [← h1]
  refine ⟨by simp only [List.length_append, List.length_take, List.length_drop, hl]; omega, ?_⟩
  rw [e, List.take_append_of_le_length (by simp only [List.length_append, List.length_take, List.length_drop, hl]; omega), List.take_of_length_le (by simp only [List.length_append, List.length_take, List.length_drop, hl]; omega)]

set_option maxRecDepth 100000 in
set_option maxHeartbeats 1600000 in
theorem del8_any (l : List UInt8) (g n c i lo : Nat) (w : World) (h : w.ownsRow lo 5 1 (.slice (some ⟨g, 0, none⟩) n c) n (bv l)) (hn : n ≤ 100) (hi : i < n) :
    Calls Try.prog 71 #[.slice (some ⟨g, 0, none⟩) n c, .int .i64 i, .int .i64 ((i : Int) + 1)] w fun e w' => e = .returned (.slice (some ⟨g, 0, none⟩) (n - 1) c) ∧
      w'.ownsRow lo 5 1 (.slice (some ⟨g, 0, none⟩) (n - 1) c) (n - 1) (bv (l.take i ++ l.drop (i + 1))) ∧ w.grownBy w' (some g) := by
  obtain ⟨hlen, h0 | ⟨g', cap, cur, h0, hlog, hg, hnc, hcm, hcs, htake⟩⟩ := h
  · exact absurd h0.1 (by simp)
  simp only [Value.slice.injEq, Option.some.injEq, Addr.mk.injEq, and_true, true_and] at h0
  obtain ⟨rfl, rfl⟩ := h0
  rw [Nat.mul_one] at hcs htake hlen
  obtain ⟨i0, hi0, hz0, hz1, hz2⟩ := info_parts u8_info
  have hdl : ((bv l).drop (i + 1)).length = n - (i + 1) := by rw [List.length_drop, hlen]
  have hrun : ∀ (A : Addr), (n - (i + 1) ≠ 0 → A = ⟨g, i + 1, none⟩) → ∀ k, ∃ w1, (∀ ty, (Builtin.append_ #[23, 23] ty #[.slice (some ⟨g, 0, none⟩) i c, .slice (some A) (n - (i + 1)) k]).run Try.prog w.drew = .ok (.slice (some ⟨g, 0, none⟩) (n - 1) c) w1) ∧
      w1.heap[g]? = some (.cells (cur.toList.take i ++ (bv l).drop (i + 1) ++ cur.toList.drop (i + ((bv l).drop (i + 1)).length)).toArray 5 (0, 0)) ∧ w.grownBy w1 (some g) ∧ w1.heap.size = w.heap.size := by
    intro A hA k
    have hr := fun ty => run_append_room (P := Try.prog) w.drew 23 ty 5 i0 Try.underlying23 hi0 g i c cur hg A (n - (i + 1)) k ((bv l).drop (i + 1)) (by rw [hz1, hdl, Nat.mul_one])
      (fun j u hj => by
        have hlt := (List.getElem?_eq_some_iff.1 hj).1
        rw [hA (by rw [hdl] at hlt; omega), Addr.add_lit, cell_of_row w.drew g _ cur 5 (0, 0) hg]
        rw [List.getElem?_drop, ← htake, List.getElem?_take] at hj
        split at hj
        · rw [← Array.getElem?_toList]; exact hj
        · cases hj)
      (fun u hu => bv_oneCell l u (List.mem_of_mem_drop hu)) (by omega) (by rw [hz1, hdl, hcs]; omega)
    rw [hz1, Nat.mul_one, show i + (n - (i + 1)) = n - 1 by omega] at hr
    exact ⟨_, hr, setRow_heap w.drew g cur _ 5 _ hg, ⟨rfl, rfl, rfl, by simp, fun k _ hk => setRow_other w.drew g k _ (fun e => hk (by rw [e]))⟩, by simp⟩
  obtain ⟨C1, hC1⟩ : ∃ C1, cur.toList.take i ++ (bv l).drop (i + 1) ++ cur.toList.drop (i + ((bv l).drop (i + 1)).length) = C1 := ⟨_, rfl⟩
  rw [hC1] at hrun
  obtain ⟨hc0, hc2⟩ := del_row (n := n) htake hlen hi hC1
  have hc1 : C1.length = c := hc0.trans (by rw [Array.length_toList, hcs])
  have hclr : ∀ (w1 : World), w1.heap[g]? = some (.cells C1.toArray 5 (0, 0)) → w.grownBy w1 (some g) → w1.heap.size = w.heap.size → ∀ k, ∃ w2, (∀ ty, (Builtin.clear_ #[23] ty #[.slice (some ⟨g, n - 1, none⟩) 1 k]).run Try.prog w1 = .ok (.tuple #[]) w2) ∧
      w2.ownsRow lo 5 1 (.slice (some ⟨g, 0, none⟩) (n - 1) c) (n - 1) (bv (l.take i ++ l.drop (i + 1))) ∧ w.grownBy w2 (some g) := by
    intro w1 h1 hg1 hs1 k
    obtain ⟨U, hcl, ⟨Z, hZ, hUh⟩, hUg, hUs⟩ := run_clear_named (P := Try.prog) w1 23 5 i0 _ 1 g (n - 1) 1 k C1.toArray 5 Try.underlying23 hi0 hz0 rfl (by omega) (by intro v hv; simp [Value.cells] at hv; rcases hv with rfl; rfl) (by omega) h1 (by rw [List.size_toArray, hc1]; omega)
    refine ⟨U, hcl, ⟨?_, .inr ⟨g, c, _, rfl, hlog, hUh, by omega, hcm, ?_, ?_⟩⟩, ⟨hUg.os.trans hg1.os, hUg.tape.trans hg1.tape, hUg.output.trans hg1.output, by rw [hUs, hs1]; exact Nat.le_refl _, fun q hq hk => (hUg.block q (by rw [hs1]; exact hq) hk).trans (hg1.block q hq hk)⟩⟩
    · rw [bv_append, bv_take, bv_drop, ← hc2, List.length_take, hc1]
      omega
    · simp only [List.size_toArray, List.length_append, List.length_take, List.length_drop, hc1, hZ]
      omega
    · rw [bv_append, bv_take, bv_drop, ← hc2]
      show List.take ((n - 1) * 1) (List.take (n - 1) C1 ++ Z ++ _) = _
      rw [Nat.mul_one, List.append_assoc, List.take_append_of_le_length (by simp only [List.length_take, hc1]; omega), List.take_take, Nat.min_self]
  clear hg htake hcs hlen hi0 hz0 hz1 hz2 hdl hC1 hc1 hc2 hc0
  have hc63 : c ≤ 9223372036854775807 := by unfold maxLen at hcm; omega
  by_cases hc : c = i + 1
  · obtain rfl : n = i + 1 := by omega
    subst hc
    obtain ⟨w1, hr1, hw1, hg1, hs1⟩ := hrun ⟨g, 0, none⟩ (fun h => by omega) 0
    obtain ⟨w2, hr2, ho2, hg2⟩ := hclr w1 hw1 hg1 hs1 1
    simp only [Nat.add_sub_cancel, Nat.sub_self] at hr1 hr2 ho2 ⊢
    have hne : ((i : Int) == (i : Int) + 1) = false := by rw [beq_eq_false_iff_ne]; omega
    have hi0' : (0 : Int) ≤ (i : Int) + 1 := by omega
    have hii : (i : Int) ≤ (i : Int) + 1 := by omega
    have hw1 : ((i : Int) + 1).toNat = i + 1 := by omega
    have hq1 : i + 1 - i = 1 := by omega
    have hq2 : ¬ (i + 1 = i) := by omega
    clear hrun hclr
    go_enter Try.func71, Try.ntmps71
    go_wp2
    go_region_law (refine step_append_known rfl _ _ 23 rfl _ _ (by first | rfl | simp [Act.eval]) (by first | rfl | simp [Act.eval]) hr1 ?_)
    go_wp2_with (at_builtin; refine wpList_clear_known _ rfl _ 23 rfl _ rfl hr2 ?_)
    go_ret
    exact ⟨rfl, ho2, hg2⟩
  · obtain ⟨w1, hr1, hw1, hg1, hs1⟩ := hrun ⟨g, i + 1, none⟩ (fun _ => rfl) (c - (i + 1))
    obtain ⟨w2, hr2, ho2, hg2⟩ := hclr w1 hw1 hg1 hs1 (c - (n - 1))
    clear hrun hclr
    have hne : ((i : Int) == (i : Int) + 1) = false := by rw [beq_eq_false_iff_ne]; omega
    have hic : i ≤ c := by omega
    have hicI : (i : Int) ≤ (c : Int) := by omega
    have hi0' : (0 : Int) ≤ (i : Int) + 1 := by omega
    have hn1 : n - 1 ≤ n := by omega
    have hn2 : ¬ (c = n - 1) := by omega
    have hn3 : n - (n - 1) = 1 := by omega
    have hn4 : ((n - 1 : Nat) : Int) ≤ (n : Int) := by omega
    have hn5 : (n : Int) ≤ (c : Int) := by omega
    have hii : (i : Int) ≤ (i : Int) + 1 := by omega
    have hin : (i : Int) + 1 ≤ (n : Int) := by omega
    go_enter Try.func71, Try.ntmps71
    have hw1 : ((i : Int) + 1).toNat = i + 1 := by omega
    go_wp2
    go_region_law (refine step_append_known rfl _ _ 23 rfl _ _ (by first | rfl | simp [Act.eval]) (by first | rfl | simp [Act.eval]) hr1 ?_)
    go_wp2_with (at_builtin; refine wpList_clear_known _ rfl _ 23 rfl _ rfl hr2 ?_)
    go_ret
    exact ⟨rfl, ho2, hg2⟩
end Go.Proofs.Ytlcgihdphdkhpaa
