/-
  slices.Sort at bytes, at twelve or fewer: the contract.
-/
import Derived.Test.YtlcgihdphdkhpaaRing1
import Derived.Test.YtlcgihdphdkhpaaSort9
import Derived.WalkSpells
namespace Go.Proofs.Ytlcgihdphdkhpaa
open Go.RowKit Go.Shelf

/-! putting one more -/
theorem upB_rises (l : List UInt8) : (upB l).Pairwise fun a b => leB a b = true := List.pairwise_mergeSort leB_trans leB_total l
theorem upB_len (l : List UInt8) : (upB l).length = l.length := (upB_perm l).length_eq
/-- s1 x s2, where s1 s2 is what stood there, rising, x is not below s1's last and below all of s2 -/
theorem upB_put {l s1 s2 : List UInt8} {x : UInt8} (hs : s1 ++ s2 = upB l) (h1 : ∀ y ∈ s1.getLast?, leB y x = true) (h2 : ∀ y ∈ s2, leB x y = true) : s1 ++ x :: s2 = upB (l ++ [x]) := by
  symm
  have hr := upB_rises l
  rw [← hs, List.pairwise_append] at hr
  obtain ⟨r1, r2, r3⟩ := hr
  refine upB_of ?_ ?_
  · rw [List.pairwise_append, List.pairwise_cons]
    refine ⟨r1, ⟨h2, r2⟩, fun a ha b hb => ?_⟩
    have hax : leB a x = true := by
      rcases List.eq_nil_or_concat s1 with rfl | ⟨s, y, rfl⟩
      · cases ha
      · have hy := h1 y (by simp)
        rw [List.concat_eq_append] at ha r1
        rcases List.mem_append.1 ha with ha | ha
        · rw [List.pairwise_append] at r1
          exact leB_trans _ _ _ (r1.2.2 a ha y (by simp)) hy
        · simp at ha
          subst ha
          exact hy
    rcases List.mem_cons.1 hb with rfl | hb
    · exact hax
    · exact r3 a ha b hb
  · refine List.perm_middle.trans ?_
    rw [hs]
    exact ((upB_perm l).cons x).trans (List.perm_append_singleton x l).symm

section
variable {w : World} {base g n c : Nat} {r : List UInt8}
theorem own_get9 (h : w.ownsRow base 5 1 (.slice (some ⟨g, 0, none⟩) n c) n (bv r)) {j : Nat} (hj : j < r.length) : w.cell? ⟨g, j, none⟩ = some (.int .u8 (r[j].toNat : Int)) ∧ w.frozen? ⟨g, j, none⟩ = false := by
  have hl : r.length = n := by have := h.1; rw [bv_length] at this; omega
  rcases h.2 with ⟨hv, _⟩ | ⟨g', cap, cur, hv, _, hg, _, _, _, hx⟩
  · injection hv with hA
    cases hA
  · injection hv with hA
    injection hA with hA
    injection hA with hA
    subst hA
    refine ⟨?_, by simp [World.frozen?, hg]⟩
    rw [cell_of_row w g j _ _ _ hg, ← Array.getElem?_toList]
    have e := congrArg (fun x => x[j]?) hx
    simp only [List.getElem?_take, if_pos (show j < n * 1 by omega), bv_getElem?, List.getElem?_eq_getElem hj] at e
    exact e
theorem own_set9 (h : w.ownsRow base 5 1 (.slice (some ⟨g, 0, none⟩) n c) n (bv r)) {j : Nat} (b : UInt8) : (w.setCell ⟨g, j, none⟩ (.int .u8 (b.toNat : Int))).ownsRow base 5 1 (.slice (some ⟨g, 0, none⟩) n c) n (bv (r.set j b)) := by
  refine ⟨by rw [bv_length, List.length_set, ← bv_length]; exact h.1, ?_⟩
  rcases h.2 with ⟨hv, _⟩ | ⟨g', cap, cur, hv, hb, hg, h1, h2, h3, hx⟩
  · injection hv with hA
    cases hA
  · injection hv with hA h4 h5
    injection hA with hA
    injection hA with hA
    subst hA h5
    refine .inr ⟨g, c, _, rfl, hb, heap_set j _ hg, h1, h2, by simp [h3], ?_⟩
    rw [Array.toList_setIfInBounds, List.take_set, hx]
    simp [bv, List.map_set]
theorem own_drew9 {s : Nat} {e : TypeId} {v : Value} {xs : List Value} (h : w.ownsRow base e s v n xs) (q : Nat) : (w.drewN q).ownsRow base e s v n xs := h
end

theorem less8_any (a b : Nat) (w : World) : Calls Try.prog 65 #[.int .u8 a, .int .u8 b] w fun e w' => e = .returned (.bool (decide (a < b))) ∧ w' = w := by
  go_enter Try.func65, Try.ntmps65
  go_wp2_with (refine (nan8_any _ _).mono ?_; rintro e w1 ⟨rfl, rfl⟩)
  go_ret
  exact ⟨rfl, rfl⟩

/-- how an inner round stands: at j lies x -/
structure Mid (l r : List UInt8) (i j : Nat) (x : UInt8) : Prop where
  ex : ∃ s1 s2, s1 ++ s2 = upB (l.take i) ∧ r = s1 ++ x :: (s2 ++ l.drop (i + 1)) ∧ s1.length = j ∧ ∀ y ∈ s2, leB x y = true
theorem Mid.start {l : List UInt8} {i : Nat} (hi : i < l.length) : Mid l (upB (l.take i) ++ l.drop i) i i l[i] :=
  ⟨⟨upB (l.take i), [], by simp, by rw [List.nil_append, ← List.drop_eq_getElem_cons hi], by rw [upB_len, List.length_take]; omega, by simp⟩⟩
theorem Mid.len {l r : List UInt8} {i j : Nat} {x : UInt8} (h : Mid l r i j x) (hi : i < l.length) : r.length = l.length ∧ j ≤ i := by
  obtain ⟨s1, s2, hs, rfl, hj, _⟩ := h
  have := congrArg List.length hs
  rw [upB_len, List.length_append, List.length_take] at this
  simp
  omega
theorem Mid.done {l r : List UInt8} {i j : Nat} {x : UInt8} (h : Mid l r i j x) (hi : i < l.length) (hx : x = l[i]) (hd : j = 0 ∨ ∃ (hj : j - 1 < r.length), leB r[j - 1] x = true) : r = upB (l.take (i + 1)) ++ l.drop (i + 1) := by
  obtain ⟨s1, s2, hs, rfl, hj, h2⟩ := h
  have h3 : s1 ++ x :: s2 = upB (l.take (i + 1)) := by
    rw [List.take_succ_eq_append_getElem hi, ← hx]
    refine upB_put hs (fun y hy => ?_) h2
    rcases hd with hd | ⟨hj1, hd⟩
    · obtain rfl : s1 = [] := List.eq_nil_of_length_eq_zero (by omega)
      cases hy
    · have hne : 0 < s1.length := by
        rcases Nat.eq_zero_or_pos s1.length with h0 | h0
        · obtain rfl : s1 = [] := List.eq_nil_of_length_eq_zero h0
          cases hy
        · exact h0
      rw [List.getLast?_eq_getElem?, Option.mem_def] at hy
      rw [List.getElem_append_left (by omega)] at hd
      have : y = s1[j - 1] := by
        have h4 : s1[s1.length - 1]? = some s1[j - 1] := by rw [List.getElem?_eq_getElem (by omega)]; simp [hj]
        rw [h4] at hy
        exact (Option.some.inj hy).symm
      rw [this]
      exact hd
  rw [← h3]
  simp
theorem Mid.at {l r : List UInt8} {i j : Nat} {x : UInt8} (h : Mid l r i j x) : r[j]? = some x := by
  obtain ⟨s1, s2, hs, rfl, rfl, h2⟩ := h
  simp
theorem Mid.swap {l r : List UInt8} {i j : Nat} {x y : UInt8} (h : Mid l r i (j + 1) x) (hy : r[j]? = some y) (hlt : leB x y = true) : Mid l ((r.set (j + 1) y).set j x) i j x := by
  obtain ⟨s1, s2, hs, rfl, hj, h2⟩ := h
  rcases List.eq_nil_or_concat s1 with rfl | ⟨s, z, rfl⟩
  · simp at hj
  · rw [List.concat_eq_append] at *
    have hl : s.length = j := by simpa using hj
    have hz : z = y := by
      rw [List.append_assoc, List.getElem?_append_right (by omega)] at hy
      simpa [hl] using hy
    subst hz
    refine ⟨⟨s, z :: s2, by simpa using hs, ?_, hl, fun v hv => ?_⟩⟩
    · subst hl
      rw [List.append_assoc, List.set_append_right _ _ (by omega), Nat.add_sub_cancel_left]
      simp
    · rcases List.mem_cons.1 hv with rfl | hv
      · exact hlt
      · exact h2 v hv

set_option maxRecDepth 100000 in
set_option maxHeartbeats 1600000 in
theorem insertion8_any (l : List UInt8) (base g n c : Nat) (w : World) (hl : l.length = n) (h0 : 0 < n) (hn : n ≤ 12) (h : w.ownsRow base 5 1 (.slice (some ⟨g, 0, none⟩) n c) n (bv l)) :
    Calls Try.prog 59 #[.slice (some ⟨g, 0, none⟩) n c, .int .i64 0, .int .i64 n] w fun e w' => e = .returned (.tuple #[]) ∧ w'.ownsRow base 5 1 (.slice (some ⟨g, 0, none⟩) n c) n (bv (upB l)) ∧ w.grownBy w' (some g) := by
  subst hl
  have HO := hide_ h
  have HU1 := hide_ (show l = upB (l.take 1) ++ l.drop 1 by
    have : upB (l.take 1) = l.take 1 := upB_of (by
      rcases l with _ | ⟨x, l⟩
      · simp
      · simp) (List.Perm.refl _)
    rw [this, List.take_append_drop])
  have HEND := hide_ (show upB (l.take l.length) ++ l.drop l.length = upB l by simp)
  have HG0 := hide_ (World.grownBy.refl w (some g))
  clear h
  go_enter Try.func59, Try.ntmps59
  go_wp2
  go_loopw [6] (fun i wx => ∃ k : Nat, 1 ≤ k ∧ k ≤ l.length ∧ i = .int .i64 k ∧ Hid (wx.ownsRow base 5 1 (.slice (some ⟨g, 0, none⟩) l.length c) l.length (bv (upB (l.take k) ++ l.drop k))) ∧ Hid (w.grownBy wx (some g))) (fun i _ => l.length - (intOf i).toNat)
  case atStart => exact ⟨1, by omega, by omega, rfl, hide_ (HU1.out ▸ HO.out), HG0⟩
  case round =>
    obtain ⟨k, hk1, hk, rfl, HOK, HGK⟩ := hrel
    by_cases hlt : k < l.length
    · obtain ⟨wo, hwo⟩ : ∃ wo, wo = wr := ⟨_, rfl⟩
      subst hwo
      have HM0 := hide_ (Mid.start hlt)
      have HML := hide_ (fun r j (h : Mid l r k j l[k]) => h.len hlt)
      have HMD := hide_ (fun r j (h : Mid l r k j l[k]) => h.done hlt rfl)
      have HMA := hide_ (fun r j (h : Mid l r k j l[k]) => h.at)
      have HMS := hide_ (fun r j y (h : Mid l r k (j + 1) l[k]) => h.swap (y := y))
      obtain ⟨x, hx⟩ : ∃ x, l[k] = x := ⟨_, rfl⟩
      rw [hx] at HM0 HML HMD HMA HMS
      clear hx
      go_wp2
      go_loopw [7] (fun j wx => ∃ (m : Nat) (r : List UInt8), m ≤ k ∧ j = .int .i64 m ∧ Hid (Mid l r k m x) ∧ Hid (wx.ownsRow base 5 1 (.slice (some ⟨g, 0, none⟩) l.length c) l.length (bv r)) ∧ Hid (w.grownBy wx (some g))) (fun j _ => (intOf j).toNat)
      case atStart => exact ⟨k, _, by omega, rfl, HM0, HOK, HGK⟩
      case round =>
        obtain ⟨m, r, hm, rfl, HM, HO2, HG2⟩ := hrel
        obtain ⟨hrl, -⟩ := HML.out _ _ HM.out
        have HRL := hide_ hrl
        by_cases hz : m = 0
        · subst hz
          have HF := hide_ (HMD.out _ _ HM.out (.inl rfl))
          have HO3 := hide_ (HF.out ▸ HO2.out)
          have hd : decide ((0 : Int) < (0 : Int)) = false := rfl
          go_upto_region 4 with fail
          go_quiet (fail)
          go_wp2
          go_roundw
          case rel => exact ⟨k + 1, by omega, by omega, by go_num, HO3, hide_ (grown_join HG2.out ⟨rfl, rfl, rfl, Nat.le_refl _, fun _ _ _ => rfl⟩)⟩
          case measure => simp [intOf]; omega
        · have hm1 : m < r.length := by omega
          obtain ⟨p, hp⟩ : ∃ p, m = p + 1 := ⟨m - 1, by omega⟩
          have hm0 : p < r.length := by omega
          have hm1' : m < l.length := by omega
          have hm0' : p < l.length := by omega
          have hwr : IntKind.i64.wrap ((m : Int) - 1) = (p : Int) := by rw [hp]; simp [IntKind.wrap, IntKind.bits, IntKind.signed]; omega
          have HP := hide_ hp
          have hpk : p ≤ k := by omega
          have hpl : p < m := by omega
          have hpm : p ≠ m := by omega
          have hmp : m ≠ p := by omega
          have hmm : 0 < m := by omega
          have hg1 : decide (0 < m) = true := by simp [hmm]
          obtain ⟨c1, f1⟩ := own_get9 HO2.out hm1
          obtain ⟨c0, f0⟩ := own_get9 HO2.out hm0
          have hxx : r[m] = x := by
            have := HMA.out _ _ HM.out
            rw [List.getElem?_eq_getElem hm1] at this
            exact Option.some.inj this
          rw [hxx] at c1
          have HY := hide_ (List.getElem?_eq_getElem hm0)
          obtain ⟨y, hy⟩ : ∃ y, r[p] = y := ⟨_, rfl⟩
          have HYY := hide_ hy
          rw [hy] at c0 HY
          have hgs : g < wr.heap.size := World.block_lt_of_cell? wr _ c0
          by_cases hlt2 : x.toNat < y.toNat
          · have HSW := hide_ (HMS.out r p y (by rw [← HP.out]; exact HM.out) HY.out (by simp [leB]; omega))
            rw [← HP.out] at HSW
            have hd : decide (x.toNat < y.toNat) = true := by simp [hlt2]
            have HL := hide_ (fun u => less8_any x.toNat y.toNat u)
            rw [hd] at HL
            clear hxx hy hlt2 hp
            go_upto_region 4 with fail
            go_quiet (first | (go_at_call 65; refine Calls.quiet_of_same (HL.out _)))
            have HO3 := hide_ (show ((wr.drewN (nq + 1)).setCell ⟨g, m, none⟩ (.int .u8 (y.toNat : Int))).setCell ⟨g, p, none⟩ (.int .u8 (x.toNat : Int)) |>.ownsRow base 5 1 (.slice (some ⟨g, 0, none⟩) l.length c) l.length (bv ((r.set m y).set p x)) from own_set9 (own_set9 (own_drew9 HO2.out _) y) x)
            have HG3 := hide_ (show w.grownBy (((wr.drewN (nq + 1)).setCell ⟨g, m, none⟩ (.int .u8 (y.toNat : Int))).setCell ⟨g, p, none⟩ (.int .u8 (x.toNat : Int))) (some g) from grown_set (grown_set (show w.grownBy (wr.drewN (nq + 1)) (some g) from grown_join HG2.out ⟨rfl, rfl, rfl, Nat.le_refl _, fun _ _ _ => rfl⟩) _ _) _ _)
            go_wp2
            go_region
            all_goals go_wp2
            go_roundw
            case rel => exact ⟨p, _, hpk, rfl, HSW, HO3, HG3⟩
            case measure => simp [intOf]; omega
          · have HF := hide_ (HMD.out _ _ HM.out (.inr ⟨by rw [HP.out]; exact hm0, by simp only [HP.out, Nat.add_sub_cancel]; rw [HYY.out]; simp [leB]; omega⟩))
            have HO3 := hide_ (HF.out ▸ HO2.out)
            have hd : decide (x.toNat < y.toNat) = false := by simp [hlt2]
            have HL := hide_ (fun u => less8_any x.toNat y.toNat u)
            rw [hd] at HL
            clear hxx hy hlt2 hp
            go_upto_region 4 with fail
            go_quiet (first | (go_at_call 65; refine Calls.quiet_of_same (HL.out _)))
            go_wp2
            go_roundw
            case rel => exact ⟨k + 1, by omega, by omega, by go_num, HO3, hide_ (grown_join HG2.out ⟨rfl, rfl, rfl, Nat.le_refl _, fun _ _ _ => rfl⟩)⟩
            case measure => simp [intOf]; omega
    · obtain rfl : k = l.length := by omega
      rw [HEND.out] at HOK
      go_wp2
      go_end0
      exact ⟨rfl, HOK.out, HGK.out⟩

set_option maxRecDepth 100000 in
theorem insertion8_none (A : Option Addr) (c : Nat) (w : World) :
    Calls Try.prog 59 #[.slice A 0 c, .int .i64 0, .int .i64 0] w fun e w' => e = .returned (.tuple #[]) ∧ w = w' := by
  go_enter Try.func59, Try.ntmps59
  go_wp2
  refine wp_loop_rounds 1 ?_
  rw [rounds_succ]
  go_wp2
  go_end0
  exact ⟨rfl, rfl⟩

theorem bitsLen_any (n : Nat) (hn : n ≤ 12) (w : World) : Calls Try.prog 45 #[.int .u64 n] w fun e w' => (∃ v : Int, e = .returned (.int .i64 v)) ∧ w = w' := by
  have h := Any.bits_Len (SlLaysF0.n15.bits (P := Try.prog) (ρ := Try.sortPt_ren) { Try.sortPt with }) (n : Int) w (by omega) (by omega)
  refine Calls.mono h ?_
  rintro e w' ⟨rfl, rfl⟩
  exact ⟨⟨_, rfl⟩, rfl⟩

set_option maxRecDepth 100000 in
theorem sort8_any (l : List UInt8) (base n c : Nat) (A : Option Addr) (w : World) (hl : l.length = n) (hn : n ≤ 12) (hb : base ≤ w.heap.size) (h : w.ownsRow base 5 1 (.slice A n c) n (bv l)) :
    Calls Try.prog 33 #[.slice A n c] w fun e w' => e = .returned (.tuple #[]) ∧ w'.ownsRow base 5 1 (.slice A n c) n (bv (upB l)) ∧ Below base w w' := by
  have HL := hide_ (fun u => bitsLen_any n hn u)
  have HI := hide_ (show Calls Try.prog 59 #[.slice A n c, .int .i64 0, .int .i64 n] w fun e w' => e = .returned (.tuple #[]) ∧ w'.ownsRow base 5 1 (.slice A n c) n (bv (upB l)) ∧ Below base w w' from by
    rcases Nat.eq_zero_or_pos n with h0 | h0
    · subst h0
      refine (insertion8_none A c w).mono ?_
      rintro e w' ⟨rfl, rfl⟩
      refine ⟨rfl, ?_, Below.refl _ _⟩
      rw [show upB l = l from by rw [List.eq_nil_of_length_eq_zero hl]; exact List.eq_nil_of_length_eq_zero (upB_len []) ]
      exact h
    · obtain ⟨g, rfl, hbg⟩ : ∃ g, A = some ⟨g, 0, none⟩ ∧ base ≤ g := by
        rcases h.2 with ⟨_, h1⟩ | ⟨g, cap, cur, hv, hbg, _⟩
        · omega
        · injection hv with hA
          exact ⟨g, hA, hbg⟩
      refine (insertion8_any l base g n c w hl h0 hn h).mono ?_
      rintro e w' ⟨rfl, ho, hg⟩
      exact ⟨rfl, ho, (Below.refl _ _).grown hg hb (fun k hk => by injection hk with hk; omega)⟩)
  clear h
  have HP := hide_ (show ∀ v : Int, Calls Try.prog 44 #[.slice A n c, .int .i64 0, .int .i64 n, .int .i64 v] w fun e w' => e = .returned (.tuple #[]) ∧ w'.ownsRow base 5 1 (.slice A n c) n (bv (upB l)) ∧ Below base w w' from fun v => by
    go_enter Try.func44, Try.ntmps44
    go_wp2
    refine wp_loop_rounds 1 ?_
    rw [rounds_succ]
    go_wp2_with fail
    refine HI.out.mono ?_
    rintro e w' ⟨rfl, ho, hbl⟩
    go_wp2
    (try simp only [Exit.inBlock, Exit.then]); refine bodyPost_ret (results_none rfl _ _ _) rfl ?_
    exact ⟨rfl, ho, hbl⟩)
  go_enter Try.func33, Try.ntmps33
  go_wp2_with fail
  refine (HL.out _).mono ?_
  rintro e w1 ⟨⟨v, rfl⟩, rfl⟩
  go_wp2_with fail
  refine (HP.out _).mono ?_
  rintro e w' ⟨rfl, ho, hbl⟩
  go_wp2
  go_end0
  exact ⟨rfl, ho, hbl⟩
end Go.Proofs.Ytlcgihdphdkhpaa
