/-
  Texts of this claim put together: Bs7.
-/
import Derived.Test.YtpiikdinphnjbaaGreatJ41
import Derived.Deep.RegionWith
/-
  cmp.Compare of bytes; slices.BinarySearchFunc and engine's put at two types.
-/
namespace Go.Proofs.YtpiikdinphnjbaaGreat
open Go.RowKit

/-- what a search leaves -/
def BsOut {α : Type} (key : α → Int) (k : Int) (l : List α) (n : Nat) (w : World) (e : Ending) (w' : World) : Prop :=
  ∃ (i : Nat) (there : Bool), e = .returned (.tuple #[.int .i64 i, .bool there]) ∧ Below w.heap.size w w' ∧ i ≤ n ∧ (∀ t x, t < i → l[t]? = some x → key x < k) ∧ (∀ t x, i ≤ t → l[t]? = some x → k ≤ key x) ∧ (there = true → ∃ y, l[i]? = some y ∧ key y = k) ∧ (there = false → ∀ y, l[i]? = some y → key y ≠ k)
def cmp8 (a b : Int) : Int := if a < b then -1 else if b < a then 1 else 0
theorem cmp8_lt {a b : Int} : cmp8 a b < 0 ↔ a < b := by unfold cmp8; split <;> (try split) <;> omega
theorem cmp8_eq {a b : Int} : cmp8 a b = 0 ↔ a = b := by unfold cmp8; split <;> (try split) <;> omega

theorem isNaN8 (a : Int) (w : World) : Calls Tryz.prog 97 #[.int .u8 a] w fun e w' => e = .returned (.bool false) ∧ w = w' := by
  have h : (a != a) = false := by simp
  go_enter Tryz.func97, Tryz.ntmps97
  go_wp2
  go_ret
  exact ⟨rfl, rfl⟩

theorem compare8 (a b : Int) (w : World) : Calls Tryz.prog 69 #[.int .u8 a, .int .u8 b] w fun e w' => e = .returned (.int .i64 (cmp8 a b)) ∧ w = w' := by
  have HN := hide_ (fun (x : Int) (u : World) => isNaN8 x u)
  obtain ⟨G, hG⟩ : ∃ G, cmp8 a b = G := ⟨_, rfl⟩
  have HG := hide_ (show G = if a < b then -1 else if b < a then 1 else 0 by rw [← hG]; rfl)
  rw [hG]
  clear hG
  by_cases h : a < b
  · have HP := hide_ (show G = -1 by rw [HG.out, if_pos h])
    go_enter Tryz.func69, Tryz.ntmps69
    go_wp2_with fail
    refine (HN.out _ _).mono ?_
    rintro e1 w1 ⟨rfl, rfl⟩
    go_wp2_with fail
    refine (HN.out _ _).mono ?_
    rintro e1 w1 ⟨rfl, rfl⟩
    go_wp2
    go_ret
    exact ⟨ret_i64T HP.out.symm, rfl⟩
  · by_cases h2 : b < a
    · have HP := hide_ (show G = 1 by rw [HG.out, if_neg h, if_pos h2])
      go_enter Tryz.func69, Tryz.ntmps69
      go_wp2_with fail
      refine (HN.out _ _).mono ?_
      rintro e1 w1 ⟨rfl, rfl⟩
      go_wp2_with fail
      refine (HN.out _ _).mono ?_
      rintro e1 w1 ⟨rfl, rfl⟩
      go_wp2
      go_ret
      exact ⟨ret_i64T HP.out.symm, rfl⟩
    · have HP := hide_ (show G = 0 by rw [HG.out, if_neg h, if_neg h2])
      go_enter Tryz.func69, Tryz.ntmps69
      go_wp2_with fail
      refine (HN.out _ _).mono ?_
      rintro e1 w1 ⟨rfl, rfl⟩
      go_wp2_with fail
      refine (HN.out _ _).mono ?_
      rintro e1 w1 ⟨rfl, rfl⟩
      go_wp2
      go_ret
      exact ⟨ret_i64T HP.out.symm, rfl⟩


set_option maxRecDepth 100000 in
set_option maxHeartbeats 3200000 in
theorem bsDone_any (f : Nat) (cap : Array Value) (k : Int) (A : Option Addr) (n c : Nat) (l : List DoneM) (B : Nat) (w : World) (hn : l.length = n) (hn2 : n ≤ 100) (hs : Sees w B A (l.flatMap DoneM.cs)) (hB : B ≤ w.heap.size)
    (he : ∀ args w, (callFunc f args).run Tryz.prog w = .ok (.enter f args) w) (hf : ∀ (x : DoneM) (wr : World), Below w.heap.size w wr → Calls Tryz.prog f (#[DoneM.v x, .int .u8 k] ++ cap) wr fun e w' => e = .returned (.int .i64 (cmp8 ((fun d : DoneM => d.cl) x) k)) ∧ Below wr.heap.size wr w') (hr : Ris (fun d : DoneM => d.cl) l) :
    Calls Tryz.prog 67 #[.slice A n c, .int .u8 k, .func (.func f) #[] cap] w (BsOut (fun d : DoneM => d.cl) k l n w) := by
  have HS := hide_ hs
  have HF := hide_ hf
  have HN := hide_ hn
  have HR := hide_ hr
  clear hs hf hn hr
  go_enter Tryz.func67, Tryz.ntmps67
  go_wp2
  go_loopw [9, 10] (fun i j wr => ∃ a b : Nat, a ≤ b ∧ b ≤ n ∧ i = .int .i64 a ∧ j = .int .i64 b ∧ Hid (∀ t x, t < a → l[t]? = some x → (fun d : DoneM => d.cl) x < k) ∧ Hid (∀ t x, b ≤ t → l[t]? = some x → k ≤ (fun d : DoneM => d.cl) x) ∧ Hid (Below w.heap.size w wr)) (fun i j _ => (intOf j).toNat - (intOf i).toNat)
  case atStart => exact ⟨0, n, Nat.zero_le _, Nat.le_refl _, rfl, rfl, (fun t x ht => absurd ht (by omega)), (fun t x ht hx => absurd (List.getElem?_eq_some_iff.1 hx).1 (by rw [HN.out]; omega)), Below.refl _ _⟩
  case round =>
    obtain ⟨a, b, hab, hbn, rfl, rfl, HA, HBB, HB⟩ := hrel
    by_cases hlt : a < b
    · obtain ⟨m, hm⟩ : ∃ m, (a + b) / 2 = m := ⟨_, rfl⟩
      have hm1 : a ≤ m := by omega
      have hm2 : m < b := by omega
      obtain ⟨x, hx⟩ : ∃ x, l[m]? = some x := ⟨_, List.getElem?_eq_getElem (by rw [HN.out]; omega)⟩
      have hs1 := HS.out.below (HB.out.mono hB)
      obtain ⟨tb, ot, rfl, hab2, e0, e1, e2, e3, e4, e5⟩ := hs1.done hx
      have hwz : tb < wr.heap.size := by have := HB.out.size; omega
      have HC := hide_ (HF.out x wr HB.out)
      have HX := hide_ hx
      clear hx hs1
      subst hm
      obtain ⟨cl, sq, er, inc, st, va⟩ := x
      obtain ⟨vA, vc, vl⟩ := va
      by_cases hlk : cl < k
      · have HJ2 := hide_ (show ∀ t x, t < (a + b) / 2 + 1 → l[t]? = some x → (fun d : DoneM => d.cl) x < k from fun t x ht hx => by
          by_cases e : t = (a + b) / 2
          · subst e
            rw [HX.out] at hx
            injection hx with hx
            subst hx
            exact hlk
          · obtain ⟨h1, hx1⟩ := List.getElem?_eq_some_iff.1 hx
            obtain ⟨h2, hx2⟩ := List.getElem?_eq_some_iff.1 HX.out
            have := List.pairwise_iff_getElem.1 HR.out t ((a + b) / 2) h1 h2 (by omega)
            rw [hx1, hx2] at this
            exact Int.lt_trans this hlk)
        have hc0 : cmp8 cl k < 0 := cmp8_lt.2 hlk
        generalize cmp8 cl k = z at hc0 HC
        go_wp2_with fail
        refine HC.out.mono ?_
        rintro en w2 ⟨rfl, hb2⟩
        have HB2 := hide_ (HB.out.trans (hb2.mono HB.out.size))
        clear hb2 e0
        go_wp2
        go_roundw
        case rel => exact ⟨(a + b) / 2 + 1, b, by omega, hbn, by go_num, rfl, HJ2, HBB, HB2⟩
        case measure => simp [intOf]; omega
      · have HJ2 := hide_ (show ∀ t x, (a + b) / 2 ≤ t → l[t]? = some x → k ≤ (fun d : DoneM => d.cl) x from fun t x ht hx => by
          by_cases e : t = (a + b) / 2
          · subst e
            rw [HX.out] at hx
            injection hx with hx
            subst hx
            exact Int.not_lt.1 hlk
          · obtain ⟨h1, hx1⟩ := List.getElem?_eq_some_iff.1 hx
            obtain ⟨h2, hx2⟩ := List.getElem?_eq_some_iff.1 HX.out
            have := List.pairwise_iff_getElem.1 HR.out ((a + b) / 2) t h2 h1 (by omega)
            rw [hx1, hx2] at this
            exact Int.le_of_lt (Int.lt_of_le_of_lt (Int.not_lt.1 hlk) this))
        have hc0 : ¬ cmp8 cl k < 0 := fun h => hlk (cmp8_lt.1 h)
        generalize cmp8 cl k = z at hc0 HC
        go_wp2_with fail
        refine HC.out.mono ?_
        rintro en w2 ⟨rfl, hb2⟩
        have HB2 := hide_ (HB.out.trans (hb2.mono HB.out.size))
        clear hb2 e0
        go_wp2
        go_roundw
        case rel => exact ⟨a, (a + b) / 2, by omega, by omega, rfl, by go_num, HA, HJ2, HB2⟩
        case measure => simp [intOf]; omega
    · obtain rfl : a = b := by omega
      by_cases han : a < n
      · obtain ⟨x, hx⟩ : ∃ x, l[a]? = some x := ⟨_, List.getElem?_eq_getElem (by rw [HN.out]; omega)⟩
        have hs1 := HS.out.below (HB.out.mono hB)
        obtain ⟨tb, ot, rfl, hab2, e0, e1, e2, e3, e4, e5⟩ := hs1.done hx
        have hwz : tb < wr.heap.size := by have := HB.out.size; omega
        have HC := hide_ (HF.out x wr HB.out)
        have HX := hide_ hx
        clear hx hs1
        obtain ⟨z, hz⟩ : ∃ z, cmp8 ((fun d : DoneM => d.cl) x) k = z := ⟨_, rfl⟩
        have HZ := hide_ hz
        rw [hz] at HC
        obtain ⟨cl, sq, er, inc, st, va⟩ := x
        obtain ⟨vA, vc, vl⟩ := va
        clear hz
        by_cases hz0 : z = 0
        · have HT := hide_ (show ∃ y, l[a]? = some y ∧ (fun d : DoneM => d.cl) y = k from ⟨_, HX.out, cmp8_eq.1 (HZ.out.trans hz0)⟩)
          go_wp2_with fail
          refine HC.out.mono ?_
          rintro en w2 ⟨rfl, hb2⟩
          have HB2 := hide_ (HB.out.trans (hb2.mono HB.out.size))
          clear hb2 e0
          go_wp2
          go_ret2
          exact ⟨a, true, rfl, HB2.out, by omega, HA.out, HBB.out, fun _ => HT.out, (fun h => (by cases h))⟩
        · have HT := hide_ (show ∀ y, l[a]? = some y → (fun d : DoneM => d.cl) y ≠ k from fun y hy => by
            rw [HX.out] at hy
            injection hy with hy
            subst hy
            exact fun e => hz0 (HZ.out.symm.trans (cmp8_eq.2 e)))
          go_wp2_with fail
          refine HC.out.mono ?_
          rintro en w2 ⟨rfl, hb2⟩
          have HB2 := hide_ (HB.out.trans (hb2.mono HB.out.size))
          clear hb2 e0
          go_wp2
          go_ret2
          exact ⟨a, false, by simp [hz0], HB2.out, by omega, HA.out, HBB.out, (fun h => (by cases h)), fun _ => HT.out⟩
      · obtain rfl : a = n := by omega
        go_wp2
        go_ret2
        exact ⟨a, false, rfl, HB.out, Nat.le_refl _, HA.out, HBB.out, fun h => (by cases h), fun _ y hy => absurd (List.getElem?_eq_some_iff.1 hy).1 (by rw [HN.out]; omega)⟩


set_option maxRecDepth 100000 in
set_option maxHeartbeats 3200000 in
theorem bsMark_any (f : Nat) (cap : Array Value) (k : Int) (A : Option Addr) (n c : Nat) (l : List MrkM) (B : Nat) (w : World) (hn : l.length = n) (hn2 : n ≤ 100) (hs : Sees w B A (l.flatMap mrkC)) (hB : B ≤ w.heap.size)
    (he : ∀ args w, (callFunc f args).run Tryz.prog w = .ok (.enter f args) w) (hf : ∀ (x : MrkM) (wr : World), Below w.heap.size w wr → Calls Tryz.prog f (#[mrkV x, .int .u8 k] ++ cap) wr fun e w' => e = .returned (.int .i64 (cmp8 ((fun d : MrkM => d.1) x) k)) ∧ Below wr.heap.size wr w') (hr : Ris (fun d : MrkM => d.1) l) :
    Calls Tryz.prog 93 #[.slice A n c, .int .u8 k, .func (.func f) #[] cap] w (BsOut (fun d : MrkM => d.1) k l n w) := by
  have HS := hide_ hs
  have HF := hide_ hf
  have HN := hide_ hn
  have HR := hide_ hr
  clear hs hf hn hr
  go_enter Tryz.func93, Tryz.ntmps93
  go_wp2
  go_loopw [9, 10] (fun i j wr => ∃ a b : Nat, a ≤ b ∧ b ≤ n ∧ i = .int .i64 a ∧ j = .int .i64 b ∧ Hid (∀ t x, t < a → l[t]? = some x → (fun d : MrkM => d.1) x < k) ∧ Hid (∀ t x, b ≤ t → l[t]? = some x → k ≤ (fun d : MrkM => d.1) x) ∧ Hid (Below w.heap.size w wr)) (fun i j _ => (intOf j).toNat - (intOf i).toNat)
  case atStart => exact ⟨0, n, Nat.zero_le _, Nat.le_refl _, rfl, rfl, (fun t x ht => absurd ht (by omega)), (fun t x ht hx => absurd (List.getElem?_eq_some_iff.1 hx).1 (by rw [HN.out]; omega)), Below.refl _ _⟩
  case round =>
    obtain ⟨a, b, hab, hbn, rfl, rfl, HA, HBB, HB⟩ := hrel
    by_cases hlt : a < b
    · obtain ⟨m, hm⟩ : ∃ m, (a + b) / 2 = m := ⟨_, rfl⟩
      have hm1 : a ≤ m := by omega
      have hm2 : m < b := by omega
      obtain ⟨x, hx⟩ : ∃ x, l[m]? = some x := ⟨_, List.getElem?_eq_getElem (by rw [HN.out]; omega)⟩
      have hs1 := HS.out.below (HB.out.mono hB)
      obtain ⟨tb, ot, rfl, hab2, e0, e1, e2⟩ := hs1.mrk hx
      have hwz : tb < wr.heap.size := by have := HB.out.size; omega
      have HC := hide_ (HF.out x wr HB.out)
      have HX := hide_ hx
      clear hx hs1
      subst hm
      obtain ⟨ms, mi, mx⟩ := x
      skip
      by_cases hlk : ms < k
      · have HJ2 := hide_ (show ∀ t x, t < (a + b) / 2 + 1 → l[t]? = some x → (fun d : MrkM => d.1) x < k from fun t x ht hx => by
          by_cases e : t = (a + b) / 2
          · subst e
            rw [HX.out] at hx
            injection hx with hx
            subst hx
            exact hlk
          · obtain ⟨h1, hx1⟩ := List.getElem?_eq_some_iff.1 hx
            obtain ⟨h2, hx2⟩ := List.getElem?_eq_some_iff.1 HX.out
            have := List.pairwise_iff_getElem.1 HR.out t ((a + b) / 2) h1 h2 (by omega)
            rw [hx1, hx2] at this
            exact Int.lt_trans this hlk)
        have hc0 : cmp8 ms k < 0 := cmp8_lt.2 hlk
        generalize cmp8 ms k = z at hc0 HC
        go_wp2_with fail
        refine HC.out.mono ?_
        rintro en w2 ⟨rfl, hb2⟩
        have HB2 := hide_ (HB.out.trans (hb2.mono HB.out.size))
        clear hb2 e0
        go_wp2
        go_roundw
        case rel => exact ⟨(a + b) / 2 + 1, b, by omega, hbn, by go_num, rfl, HJ2, HBB, HB2⟩
        case measure => simp [intOf]; omega
      · have HJ2 := hide_ (show ∀ t x, (a + b) / 2 ≤ t → l[t]? = some x → k ≤ (fun d : MrkM => d.1) x from fun t x ht hx => by
          by_cases e : t = (a + b) / 2
          · subst e
            rw [HX.out] at hx
            injection hx with hx
            subst hx
            exact Int.not_lt.1 hlk
          · obtain ⟨h1, hx1⟩ := List.getElem?_eq_some_iff.1 hx
            obtain ⟨h2, hx2⟩ := List.getElem?_eq_some_iff.1 HX.out
            have := List.pairwise_iff_getElem.1 HR.out ((a + b) / 2) t h2 h1 (by omega)
            rw [hx1, hx2] at this
            exact Int.le_of_lt (Int.lt_of_le_of_lt (Int.not_lt.1 hlk) this))
        have hc0 : ¬ cmp8 ms k < 0 := fun h => hlk (cmp8_lt.1 h)
        generalize cmp8 ms k = z at hc0 HC
        go_wp2_with fail
        refine HC.out.mono ?_
        rintro en w2 ⟨rfl, hb2⟩
        have HB2 := hide_ (HB.out.trans (hb2.mono HB.out.size))
        clear hb2 e0
        go_wp2
        go_roundw
        case rel => exact ⟨a, (a + b) / 2, by omega, by omega, rfl, by go_num, HA, HJ2, HB2⟩
        case measure => simp [intOf]; omega
    · obtain rfl : a = b := by omega
      by_cases han : a < n
      · obtain ⟨x, hx⟩ : ∃ x, l[a]? = some x := ⟨_, List.getElem?_eq_getElem (by rw [HN.out]; omega)⟩
        have hs1 := HS.out.below (HB.out.mono hB)
        obtain ⟨tb, ot, rfl, hab2, e0, e1, e2⟩ := hs1.mrk hx
        have hwz : tb < wr.heap.size := by have := HB.out.size; omega
        have HC := hide_ (HF.out x wr HB.out)
        have HX := hide_ hx
        clear hx hs1
        obtain ⟨z, hz⟩ : ∃ z, cmp8 ((fun d : MrkM => d.1) x) k = z := ⟨_, rfl⟩
        have HZ := hide_ hz
        rw [hz] at HC
        obtain ⟨ms, mi, mx⟩ := x
        skip
        clear hz
        by_cases hz0 : z = 0
        · have HT := hide_ (show ∃ y, l[a]? = some y ∧ (fun d : MrkM => d.1) y = k from ⟨_, HX.out, cmp8_eq.1 (HZ.out.trans hz0)⟩)
          go_wp2_with fail
          refine HC.out.mono ?_
          rintro en w2 ⟨rfl, hb2⟩
          have HB2 := hide_ (HB.out.trans (hb2.mono HB.out.size))
          clear hb2 e0
          go_wp2
          go_ret2
          exact ⟨a, true, rfl, HB2.out, by omega, HA.out, HBB.out, fun _ => HT.out, (fun h => (by cases h))⟩
        · have HT := hide_ (show ∀ y, l[a]? = some y → (fun d : MrkM => d.1) y ≠ k from fun y hy => by
            rw [HX.out] at hy
            injection hy with hy
            subst hy
            exact fun e => hz0 (HZ.out.symm.trans (cmp8_eq.2 e)))
          go_wp2_with fail
          refine HC.out.mono ?_
          rintro en w2 ⟨rfl, hb2⟩
          have HB2 := hide_ (HB.out.trans (hb2.mono HB.out.size))
          clear hb2 e0
          go_wp2
          go_ret2
          exact ⟨a, false, by simp [hz0], HB2.out, by omega, HA.out, HBB.out, (fun h => (by cases h)), fun _ => HT.out⟩
      · obtain rfl : a = n := by omega
        go_wp2
        go_ret2
        exact ⟨a, false, rfl, HB.out, Nat.le_refl _, HA.out, HBB.out, fun h => (by cases h), fun _ y hy => absurd (List.getElem?_eq_some_iff.1 hy).1 (by rw [HN.out]; omega)⟩

end Go.Proofs.YtpiikdinphnjbaaGreat
