/-
  Contracts of sum's functions: the register's table, the sum of bytes.
-/
import Derived.Test.YtecbpmnolgkllaaRows
import Derived.Test.YtecbpmnolgkllaaMem
import Derived.Test.YtecbpmnolgkllaaCrc
import Derived.WalkKit
namespace Go.Proofs.Ytecbpmnolgkllaa
open Go.RowKit

theorem ret_u32 {a b : Int} (h : a = b) : Ending.returned (.int .u32 a) = .returned (.int .u32 b) := by rw [h]
theorem val_u32 {a b : Int} (h : a = b) : Value.int .u32 a = .int .u32 b := by rw [h]

theorem moved_any (x : Nat) (w : World) (hx : x < 4294967296) :
    Calls Try.prog 160 #[.int .u32 x] w fun e w' => e = .returned (.int .u32 (bit1 x : Nat)) ∧ w = w' := by
  by_cases h : x % 2 = 1
  · have H := hide_ h
    have h1 : (x : Int) % 2 = 1 := by omega
    go_enter Try.func160, Try.ntmps160
    go_wp2
    go_ret
    refine ⟨ret_u32 ?_, rfl⟩
    have e := u32_xor ((x : Int) / 2) 3988292384 (by omega) (by omega) (by omega) (by omega)
    have e2 : ((x : Int) / 2).toNat = x / 2 := by omega
    rw [e, e2]
    unfold bit1
    rw [if_pos H.out]
    rfl
  · have h1 : (x : Int) % 2 = 0 := by omega
    go_enter Try.func160, Try.ntmps160
    go_wp2
    go_ret
    exact ⟨ret_u32 (by unfold bit1; rw [if_neg h]; omega), rfl⟩


theorem u32_info : (Try.prog.info? 47).map (fun i => (i.zero, i.size, i.bytes)) = some (some (.int .u32 0), 1, 4) := by kernel_rfl

/-- what each row of four bits does, the first k of them -/
def tabL (k : Nat) : List Value := (List.range 16).map fun j => if j < k then .int .u32 (bitsN 4 j : Nat) else .int .u32 0
theorem tabL_length (k : Nat) : (tabL k).length = 16 := by simp [tabL]
theorem tabL_size (k : Nat) : (tabL k).toArray.size = 16 := by simp [tabL]
theorem tabL_get (k j : Nat) (h : j < 16) : (tabL k)[j]? = some (if j < k then .int .u32 (bitsN 4 j : Nat) else .int .u32 0) := by simp [tabL, h]
theorem tabL_succ (k : Nat) : (tabL k).toArray.setIfInBounds k (.int .u32 (bitsN 4 k : Nat)) = (tabL (k + 1)).toArray := by
  apply Array.ext_getElem?
  intro j
  rw [Array.getElem?_setIfInBounds]
  simp only [List.getElem?_toArray, List.size_toArray, tabL_length]
  by_cases hj : j < 16
  · rw [tabL_get k j hj, tabL_get (k + 1) j hj]
    by_cases hk : k = j
    · subst hk
      rw [if_pos rfl, if_pos hj, if_pos (by omega)]
    · rw [if_neg hk]
      by_cases h2 : j < k
      · rw [if_pos h2, if_pos (by omega)]
      · rw [if_neg h2, if_neg (by omega)]
  · have e1 : (tabL k)[j]? = none := List.getElem?_eq_none (by rw [tabL_length]; omega)
    have e2 : (tabL (k + 1))[j]? = none := List.getElem?_eq_none (by rw [tabL_length]; omega)
    rw [e1, e2]
    split
    · rw [if_neg (by omega)]
    · rfl
theorem tabL_one (k : Nat) : (tabL k).toArray.all (·.oneCell') = true := by
  rw [Array.all_eq_true]
  intro i hi
  simp [tabL] at hi ⊢
  split <;> rfl
/-- the table -/
def tab : Array Value := (tabL 16).toArray
theorem tab_size : tab.size = 16 := tabL_size 16

theorem steps_under : Try.prog.underlying 193 = some (.array 16 47) := by kernel_rfl
theorem steps_size : (Try.prog.info? 193).map (·.size) = some 16 := by kernel_rfl

theorem makeSteps_any (w : World) :
    Calls Try.prog 149 #[] w fun e w' => e = .returned (.agg tab) ∧ Below w.heap.size w w' := by
  go_enter Try.func149, Try.ntmps149
  go_wp2
  go_loopw [4] (fun i wr => ∃ k : Nat, k ≤ 16 ∧ i = .int .i64 k ∧ Hid (wr.heap[w.heap.size]? = some (.cells (tabL 0).toArray 193 (0, 0))) ∧ Hid (wr.heap[w.heap.size + 1]? = some (.cells (tabL k).toArray 193 (0, 0))) ∧ Below w.heap.size w wr) (fun i _ => 16 - (intOf i).toNat)
  case atStart => exact ⟨0, by omega, rfl, heap_alloc2_old w _ _, heap_alloc2_new w _ _, ((Below.refl _ _).alloc (Nat.le_refl _) _).alloc (by simp) _⟩
  case round =>
    obtain ⟨k, hk, rfl, H0, H1, hb⟩ := hrel
    have hz := hb.size
    by_cases hlt : k < 16
    · have hd : decide ((k : Int) < 16) = true := decide_eq_true (by omega)
      have h0 : (0 : Int) ≤ k := by omega
      have h16 : (k : Int) < 16 := by omega
      go_wp2
      go_loop [3, 9] (fun r i => ∃ j : Nat, j ≤ 4 ∧ i = .int .i64 j ∧ r = .int .u32 (bitsN j k : Nat)) (fun _ i => 4 - (intOf i).toNat)
      case atStart => exact ⟨0, by omega, rfl, rfl⟩
      case round =>
        obtain ⟨j, hj, rfl, rfl⟩ := hrel
        by_cases hjl : j < 4
        · go_wp2_with fail
          refine (moved_any (bitsN j k) _ (bitsN_lt j k (by omega))).mono ?_
          rintro e w1 ⟨rfl, rfl⟩
          go_wp2
          go_round
          case rel => exact ⟨j + 1, by omega, by go_num, rfl⟩
          case measure => simp [intOf]; omega
        · obtain rfl : j = 4 := by omega
          have hcell := cell_of_row wr (w.heap.size + 1) k _ _ _ H1.out
          have hs : (tabL k).toArray[k]? = some (.int .u32 0) := by simp [tabL, hlt]
          rw [hs] at hcell
          have hfr : wr.frozen? ⟨w.heap.size + 1, k, none⟩ = false := by simp [World.frozen?, H1.out]
          have H2 := heap_set k (.int .u32 (bitsN 4 k : Nat)) H1.out
          rw [tabL_succ] at H2
          have H3 : Hid ((wr.setCell ⟨w.heap.size + 1, k, none⟩ (.int .u32 (bitsN 4 k : Nat))).heap[w.heap.size]? = some (.cells (tabL 0).toArray 193 (0, 0))) := (Below.heap_setCell wr _ _ _ (by simp)).trans H0.out
          have H4 := hide_ H2
          clear H2 hs
          go_wp2
          go_roundw
          case rel => exact ⟨k + 1, by omega, by go_num, H3, H4, hb.setCell (by simp) _⟩
          case measure => simp [intOf]; omega
    · obtain rfl : k = 16 := by omega
      go_wp2_with (first | (refine wpList_load_row rfl 193 (.tmp 1) rfl (w.heap.size + 1) rfl 193 tab (0, 0) _ H1.out steps_under rfl (by rw [tab_size]; exact steps_size) ?_) | (refine wpList_store_row rfl 193 (.tmp 0) (.tmp 18) rfl w.heap.size tab rfl rfl 193 (tabL 0).toArray H0.out (by rw [tab_size]; exact steps_size) (by rw [tabL_size, tab_size]) (tabL_one 16) ?_))
      have hr := results_cell_row (P := Try.prog) (fn := Try.f149) rfl
      refine bodyPost_ret (v := .agg tab) (hr _ _ w.heap.size 193 tab (0, 0) _ rfl (setRow_heap wr w.heap.size _ _ 193 _ H0.out) steps_under rfl (by rw [tab_size]; exact steps_size)) rfl ⟨rfl, below_setRow hb (Nat.le_refl _) _⟩

theorem not32 (s : Nat) (h : s < 4294967296) : bits .xor .u32 4294967295 (s : Int) = ((4294967295 - s : Nat) : Int) := by
  have := u32_xor_nat 4294967295 s (by omega) h
  rw [turn_eq h] at this
  exact this
theorem not32' (s : Nat) (h : s < 4294967296) : bits .xor .u32 IntKind.u32.max (s : Int) = ((4294967295 - s : Nat) : Int) := not32 s h

theorem tab_cell (j : Nat) (h : j < 16) : tab[j]? = some (.int .u32 (bitsN 4 j : Nat)) := by
  unfold tab
  rw [List.getElem?_toArray, tabL_get 16 j h, if_pos h]
theorem take_snocS (l : List UInt8) (k : Nat) (h : k < l.length) : l.take (k + 1) = l.take k ++ [l[k]] := by
  rw [List.take_succ_eq_append_getElem h]

theorem More_any (s : Nat) (l : List UInt8) (B : Nat) (A : Option Addr) (n c : Nat) (w : World) (hn : l.length = n) (hs : s < 4294967296) (hm : n ≤ maxLen) (h : Sees w B A (bv l)) (hB : B ≤ w.heap.size) :
    Calls Try.prog 136 #[.int .u32 s, .slice A n c] w fun e w' => e = .returned (.int .u32 (4294967295 - crcR (4294967295 - s) l : Nat)) ∧ Below w.heap.size w w' := by
  unfold maxLen at hm
  subst hn
  have HS := hide_ hs
  have hnot := not32' s hs
  have hsg : IntKind.u32.signed = false := rfl
  clear hs
  go_enter Try.func136, Try.ntmps136
  go_wp2_with fail
  refine (makeSteps_any _).mono ?_
  rintro e w1 ⟨rfl, hb1⟩
  have hz1 := hb1.size
  go_wp2_with (refine wpList_store_row rfl 193 (.tmp 5) (.tmp 9) rfl w1.heap.size tab rfl rfl 193 _ (heap_alloc_new w1 _) (by rw [tab_size]; exact steps_size) (by rw [tab_size]; rfl) (tabL_one 16) ?_)
  have hbW := below_setRow ((Below.refl w1.heap.size w1).alloc (Nat.le_refl _) (.cells #[.int .u32 0, .int .u32 0, .int .u32 0, .int .u32 0, .int .u32 0, .int .u32 0, .int .u32 0, .int .u32 0, .int .u32 0, .int .u32 0, .int .u32 0, .int .u32 0, .int .u32 0, .int .u32 0, .int .u32 0, .int .u32 0] 193)) (Nat.le_refl _) tab
  have hgW := setRow_heap _ _ _ tab _ _ (heap_alloc_new w1 (.cells #[.int .u32 0, .int .u32 0, .int .u32 0, .int .u32 0, .int .u32 0, .int .u32 0, .int .u32 0, .int .u32 0, .int .u32 0, .int .u32 0, .int .u32 0, .int .u32 0, .int .u32 0, .int .u32 0, .int .u32 0, .int .u32 0] 193))
  generalize World.setRow _ w1.heap.size tab = W at hbW hgW ⊢
  have hb : Below w.heap.size w W := hb1.trans (hbW.mono hz1)
  have h2 := h.below (hb.mono hB)
  have HG := hide_ hgW
  clear hgW hbW h
  go_loop [6, 14] (fun r i => ∃ k : Nat, k ≤ l.length ∧ i = .int .i64 k ∧ r = .int .u32 (crcR (4294967295 - s) (l.take k) : Nat)) (fun _ i => l.length - (intOf i).toNat)
  case atStart => exact ⟨0, by omega, rfl, rfl⟩
  case round =>
    obtain ⟨k, hk, rfl, rfl⟩ := hrel
    by_cases hlt : k < l.length
    · have hj : (bv l)[k]? = some (.int .u8 (l[k].toNat : Int)) := by rw [bv_getElem?, List.getElem?_eq_getElem hlt]; rfl
      obtain ⟨ad, rfl, hab, hcell⟩ := h2 (by rw [bv_length]; omega)
      have hck := hcell k _ hj
      clear hj hcell
      have hbt := l[k].toNat_lt
      go_wp2
      have hR := crcR_lt (l.take k) (4294967295 - s) (by omega)
      go_loop [6, 22] (fun r i => ∃ j : Nat, j ≤ 2 ∧ i = .int .i64 j ∧ r = .int .u32 (bitsN (4 * j) (crcR (4294967295 - s) (l.take k) ^^^ l[k].toNat) : Nat)) (fun _ i => 2 - (intOf i).toNat)
      case atStart =>
        exact ⟨0, by omega, rfl, val_u32 (u32_xor_nat _ _ hR (by omega))⟩
      case round =>
        obtain ⟨j, hj, rfl, rfl⟩ := hrel
        have hx := bitsN_lt (4 * j) _ (xor_lt hR (show l[k].toNat < 4294967296 by omega))
        by_cases hj2 : j < 2
        · have hm := tab_cell (bitsN (4 * j) (crcR (4294967295 - s) (l.take k) ^^^ l[k].toNat) % 16) (by omega)
          have h4 := bits4 (bitsN (4 * j) (crcR (4294967295 - s) (l.take k) ^^^ l[k].toNat))
          rw [bitsN_add, show 4 + 4 * j = 4 * (j + 1) by omega] at h4
          have H4 := hide_ h4
          clear h4
          generalize bitsN (4 * j) (crcR (4294967295 - s) (l.take k) ^^^ l[k].toNat) = x at hm H4 hx ⊢
          have hcx := cell_of_row W w1.heap.size (x % 16) _ _ _ HG.out
          rw [hm] at hcx
          clear hm
          have i0 : (0 : Int) ≤ ((x % 16 : Nat) : Int) := by omega
          have i1 : ((x % 16 : Nat) : Int) < 16 := by omega
          go_wp2
          go_round
          case rel =>
            refine ⟨j + 1, by omega, by go_num, val_u32 ?_⟩
            rw [H4.out]
            exact u32_xor_nat (x / 16) _ (by omega) (bitsN_lt 4 _ (by omega))
          case measure => simp [intOf]; omega
        · obtain rfl : j = 2 := by omega
          go_wp2
          go_round
          case rel => exact ⟨k + 1, by omega, by go_num, by rw [take_snocS l k hlt, crcR_snoc]; rfl⟩
          case measure => simp [intOf]; omega
    · obtain rfl : k = l.length := by omega
      have hR := crcR_lt l (4294967295 - s) (by omega)
      have hn2 := not32' _ hR
      have ht : l.take l.length = l := List.take_length
      rw [ht]
      clear ht
      go_wp2
      go_ret
      exact ⟨rfl, hb⟩

theorem Of_any (l : List UInt8) (B : Nat) (A : Option Addr) (n c : Nat) (w : World) (hn : l.length = n) (hm : n ≤ maxLen) (h : Sees w B A (bv l)) (hB : B ≤ w.heap.size) :
    Calls Try.prog 113 #[.slice A n c] w fun e w' => e = .returned (.int .u32 (crc l : Nat)) ∧ Below w.heap.size w w' := by
  go_enter Try.func113, Try.ntmps113
  go_wp2_with fail
  refine (More_any 0 l B A n c _ hn (by omega) hm h hB).mono ?_
  rintro e w1 ⟨rfl, hb1⟩
  go_wp2
  go_ret
  exact ⟨rfl, hb1⟩

theorem test_yes {x y : Nat} (h : (!((x : Int) % 2 == (y : Int))) = false) : x % 2 = y := by
  simp at h
  omega
theorem test_no {x y : Nat} (h : (!((x : Int) % 2 == (y : Int))) = true) : x % 2 ≠ y := by
  simp at h
  omega
theorem refStep_yes {x b j R : Nat} (h : x ^^^ b / 2 ^ j = bitsN j R) (he : x % 2 = b / 2 ^ j % 2) : x / 2 ^^^ b / 2 ^ (j + 1) = bitsN (j + 1) R := by
  rw [bitsN, ← h]
  unfold bit1
  rw [xor_mod2, if_neg (by omega), xor_half, Nat.div_div_eq_div_mul, Nat.pow_succ]
theorem refStep_no {x b j R : Nat} (h : x ^^^ b / 2 ^ j = bitsN j R) (he : x % 2 ≠ b / 2 ^ j % 2) : (x / 2 ^^^ 3988292384) ^^^ b / 2 ^ (j + 1) = bitsN (j + 1) R := by
  rw [bitsN, ← h]
  unfold bit1
  rw [xor_mod2, if_pos (by omega), xor_half, Nat.div_div_eq_div_mul, Nat.pow_succ, Nat.xor_assoc, Nat.xor_comm 3988292384, Nat.xor_assoc]

end Go.Proofs.Ytecbpmnolgkllaa
