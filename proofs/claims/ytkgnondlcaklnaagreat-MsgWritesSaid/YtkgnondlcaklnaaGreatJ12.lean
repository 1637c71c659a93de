/-
  Texts of this claim put together: Find.
-/
import Derived.Test.YtkgnondlcaklnaaGreatJ11
import Derived.Test.YtkgnondlcaklnaaGreatJ03
import Derived.Outline
/-
  Contracts of the standard library's IndexFunc and ContainsFunc, and of table's faulty, over whatever is handed on.
-/
namespace Go.Proofs.YtkgnondlcaklnaaGreat
open Go.RowKit

/-- an answer that is yes or no, and what is known then -/
def Ans (B : Nat) (w : World) (p : Bool) (I : World → Prop) (e : Ending) (w' : World) : Prop := e = .returned (.bool p) ∧ (p = false → I w') ∧ Below B w w'
theorem ret_boolT {a b : Bool} (h : a = b) : Ending.returned (.bool a) = .returned (.bool b) := by rw [h]
theorem ret_i64T {a b : Int} (h : a = b) : Ending.returned (.int .i64 a) = .returned (.int .i64 b) := by rw [h]

set_option maxHeartbeats 800000 in
set_option maxRecDepth 100000 in
theorem indexRule_any (p : Nat → Bool) (I : Nat → World → Prop) (f : Nat) (cap : Array Value) (s : Sl RuM) (B : Nat) (w : World) (hs : rusOk w B s) (hB : B ≤ w.heap.size) (h0 : I 0 w)
    (he : ∀ args w, (callFunc f args).run Tryz.prog w = .ok (.enter f args) w) (hf : ∀ k x wr, s.l[k]? = some x → Below B w wr → I k wr → Calls Tryz.prog f (#[x.v] ++ cap) wr (Ans B wr (p k) (I (k + 1)))) :
    Calls Tryz.prog 187 #[s.v, .func (.func f) #[] cap] w fun e w' => e = .returned (.int .i64 (idxI p s.l.length)) ∧ Below B w w' := by
  obtain ⟨A, c, l⟩ := s
  obtain ⟨h1, h2, h3, h4⟩ := hs
  obtain ⟨n, hn⟩ : ∃ n, l.length = n := ⟨_, rfl⟩
  have HS := hide_ h3
  have HF := hide_ hf
  have HN := hide_ hn
  have HI := hide_ h0
  simp only [Sl.v, hn] at h1 h2 ⊢
  have hnm : n ≤ 9223372036854775807 := by unfold maxLen at h2; omega
  clear h3 hf hn h0 h4 h1 h2
  go_enter Tryz.func187, Tryz.ntmps187
  go_wp2
  go_loopw [8] (fun i wr => ∃ k : Nat, k ≤ n ∧ i = .int .i64 k ∧ Hid (∀ j, j < k → p j = false) ∧ Hid (I k wr) ∧ Below B w wr) (fun i _ => n - (intOf i).toNat)
  case atStart => exact ⟨0, Nat.zero_le _, rfl, (fun j hj => absurd hj (by omega)), HI.out, Below.refl _ _⟩
  case round =>
    obtain ⟨k, hk, rfl, HJ, HK, hb⟩ := hrel
    by_cases hlt : k < n
    · obtain ⟨x, hx⟩ : ∃ x, l[k]? = some x := ⟨_, List.getElem?_eq_getElem (by rw [HN.out]; exact hlt)⟩
      have hs1 := HS.out.below hb
      obtain ⟨tb, ot, rfl, hab, e0, e1, e2, e3, e4, e5, e6⟩ := hs1.ru hx
      have hwz : tb < wr.heap.size := by have := hb.size; omega
      have HC := hide_ (HF.out k x wr hx hb HK.out)
      have HX := hide_ hx
      clear hx hs1
      obtain ⟨fr, ac, pa, tt, gu, se, em⟩ := x
      go_wp2_with fail
      refine HC.out.mono ?_
      rintro en w2 ⟨rfl, hI2, hb2⟩
      have HI2 := hide_ hI2
      clear hI2
      cases hp : p k with
      | true =>
        have HP := hide_ (show idxI p n = k from idxI_hit hlt hp HJ.out)
        clear hp
        go_wp2
        go_ret
        exact ⟨ret_i64T HP.out.symm, hb.trans hb2⟩
      | false =>
        have HJ2 := hide_ (show ∀ j, j < k + 1 → p j = false from fun j hj => by
          by_cases h : j = k
          · rw [h]; exact hp
          · exact HJ.out j (by omega))
        have HI3 := hide_ (HI2.out hp)
        clear hp
        go_wp2
        go_roundw
        case rel => exact ⟨k + 1, by omega, by go_num, HJ2, HI3, hb.trans hb2⟩
        case measure => simp [intOf]; omega
    · obtain rfl : k = n := by omega
      have HP := hide_ (show idxI p k = -1 from idxI_none HJ.out)
      go_wp2
      go_ret
      exact ⟨ret_i64T HP.out.symm, hb⟩

theorem containsRule_any (p : Nat → Bool) (I : Nat → World → Prop) (f : Nat) (cap : Array Value) (s : Sl RuM) (B : Nat) (w : World) (hs : rusOk w B s) (hB : B ≤ w.heap.size) (h0 : I 0 w)
    (he : ∀ args w, (callFunc f args).run Tryz.prog w = .ok (.enter f args) w) (hf : ∀ k x wr, s.l[k]? = some x → Below B w wr → I k wr → Calls Tryz.prog f (#[x.v] ++ cap) wr (Ans B wr (p k) (I (k + 1)))) :
    Calls Tryz.prog 133 #[s.v, .func (.func f) #[] cap] w fun e w' => e = .returned (.bool (anyB p s.l.length)) ∧ Below B w w' := by
  have HC := hide_ (indexRule_any p I f cap s B w hs hB h0 he hf)
  have HP := hide_ (anyB_idx p s.l.length)
  clear hf he hs h0
  generalize s.l.length = n at HC HP
  obtain ⟨q, hq⟩ : ∃ q, idxI p n = q := ⟨_, rfl⟩
  rw [hq] at HC HP
  clear hq
  generalize s.v = v at HC
  go_enter Tryz.func133, Tryz.ntmps133
  go_wp2_with fail
  refine HC.out.mono ?_
  rintro en w1 ⟨rfl, hb⟩
  go_wp2
  go_ret
  exact ⟨ret_boolT HP.out, hb⟩

theorem faultyRule_any (p : Nat → Bool) (I : Nat → World → Prop) (f : Nat) (cap : Array Value) (s : Sl RuM) (m : Int) (B : Nat) (w : World) (hs : rusOk w B s) (hB : B ≤ w.heap.size) (h0 : I 0 w)
    (he : ∀ args w, (callFunc f args).run Tryz.prog w = .ok (.enter f args) w) (hf : ∀ k x wr, s.l[k]? = some x → Below B w wr → I k wr → Calls Tryz.prog f (#[x.v] ++ cap) wr (Ans B wr (p k) (I (k + 1)))) :
    Calls Tryz.prog 99 #[s.v, .int .i64 m, .func (.func f) #[] cap] w fun e w' => e = .returned (.bool (decide (m < s.l.length) || anyB p s.l.length)) ∧ Below B w w' := by
  have HC := hide_ (containsRule_any p I f cap s B w hs hB h0 he hf)
  have hnm : s.l.length ≤ 9223372036854775807 := by have h1 := hs.1; have h2 := hs.2.1; unfold maxLen at h2; omega
  clear hf he hs h0
  obtain ⟨A, c, l⟩ := s
  obtain ⟨n, hn⟩ : ∃ n, l.length = n := ⟨_, rfl⟩
  simp only [Sl.v, hn] at HC hnm ⊢
  clear hn
  by_cases h : m < n
  · have HR := hide_ (show (decide (m < (n : Int)) || anyB p n) = true by simp [h])
    go_enter Tryz.func99, Tryz.ntmps99
    go_wp2
    go_ret
    exact ⟨ret_boolT HR.out.symm, Below.refl _ _⟩
  · have hd : decide (m < (n : Int)) = false := decide_eq_false h
    have HR := hide_ (show (decide (m < (n : Int)) || anyB p n) = anyB p n by simp [h])
    go_enter Tryz.func99, Tryz.ntmps99
    go_wp2_with fail
    refine HC.out.mono ?_
    rintro en w1 ⟨rfl, hb⟩
    go_wp2
    go_ret
    exact ⟨ret_boolT HR.out.symm, hb⟩

set_option maxHeartbeats 800000 in
set_option maxRecDepth 100000 in
theorem indexSet_any (p : Nat → Bool) (I : Nat → World → Prop) (f : Nat) (cap : Array Value) (s : Sl SetM) (B : Nat) (w : World) (hs : setsOk w B s) (hB : B ≤ w.heap.size) (h0 : I 0 w)
    (he : ∀ args w, (callFunc f args).run Tryz.prog w = .ok (.enter f args) w) (hf : ∀ k x wr, s.l[k]? = some x → Below B w wr → I k wr → Calls Tryz.prog f (#[x.v] ++ cap) wr (Ans B wr (p k) (I (k + 1)))) :
    Calls Tryz.prog 219 #[s.v, .func (.func f) #[] cap] w fun e w' => e = .returned (.int .i64 (idxI p s.l.length)) ∧ Below B w w' := by
  obtain ⟨A, c, l⟩ := s
  obtain ⟨h1, h2, h3, h4⟩ := hs
  obtain ⟨n, hn⟩ : ∃ n, l.length = n := ⟨_, rfl⟩
  have HS := hide_ h3
  have HF := hide_ hf
  have HN := hide_ hn
  have HI := hide_ h0
  simp only [Sl.v, hn] at h1 h2 ⊢
  have hnm : n ≤ 9223372036854775807 := by unfold maxLen at h2; omega
  clear h3 hf hn h0 h4 h1 h2
  go_enter Tryz.func219, Tryz.ntmps219
  go_wp2
  go_loopw [8] (fun i wr => ∃ k : Nat, k ≤ n ∧ i = .int .i64 k ∧ Hid (∀ j, j < k → p j = false) ∧ Hid (I k wr) ∧ Below B w wr) (fun i _ => n - (intOf i).toNat)
  case atStart => exact ⟨0, Nat.zero_le _, rfl, (fun j hj => absurd hj (by omega)), HI.out, Below.refl _ _⟩
  case round =>
    obtain ⟨k, hk, rfl, HJ, HK, hb⟩ := hrel
    by_cases hlt : k < n
    · obtain ⟨x, hx⟩ : ∃ x, l[k]? = some x := ⟨_, List.getElem?_eq_getElem (by rw [HN.out]; exact hlt)⟩
      have hs1 := HS.out.below hb
      obtain ⟨tb, ot, rfl, hab, e0, e1⟩ := hs1.set hx
      have hwz : tb < wr.heap.size := by have := hb.size; omega
      have HC := hide_ (HF.out k x wr hx hb HK.out)
      have HX := hide_ hx
      clear hx hs1
      obtain ⟨vr, vl⟩ := x
      go_wp2_with fail
      refine HC.out.mono ?_
      rintro en w2 ⟨rfl, hI2, hb2⟩
      have HI2 := hide_ hI2
      clear hI2
      cases hp : p k with
      | true =>
        have HP := hide_ (show idxI p n = k from idxI_hit hlt hp HJ.out)
        clear hp
        go_wp2
        go_ret
        exact ⟨ret_i64T HP.out.symm, hb.trans hb2⟩
      | false =>
        have HJ2 := hide_ (show ∀ j, j < k + 1 → p j = false from fun j hj => by
          by_cases h : j = k
          · rw [h]; exact hp
          · exact HJ.out j (by omega))
        have HI3 := hide_ (HI2.out hp)
        clear hp
        go_wp2
        go_roundw
        case rel => exact ⟨k + 1, by omega, by go_num, HJ2, HI3, hb.trans hb2⟩
        case measure => simp [intOf]; omega
    · obtain rfl : k = n := by omega
      have HP := hide_ (show idxI p k = -1 from idxI_none HJ.out)
      go_wp2
      go_ret
      exact ⟨ret_i64T HP.out.symm, hb⟩

theorem containsSet_any (p : Nat → Bool) (I : Nat → World → Prop) (f : Nat) (cap : Array Value) (s : Sl SetM) (B : Nat) (w : World) (hs : setsOk w B s) (hB : B ≤ w.heap.size) (h0 : I 0 w)
    (he : ∀ args w, (callFunc f args).run Tryz.prog w = .ok (.enter f args) w) (hf : ∀ k x wr, s.l[k]? = some x → Below B w wr → I k wr → Calls Tryz.prog f (#[x.v] ++ cap) wr (Ans B wr (p k) (I (k + 1)))) :
    Calls Tryz.prog 210 #[s.v, .func (.func f) #[] cap] w fun e w' => e = .returned (.bool (anyB p s.l.length)) ∧ Below B w w' := by
  have HC := hide_ (indexSet_any p I f cap s B w hs hB h0 he hf)
  have HP := hide_ (anyB_idx p s.l.length)
  clear hf he hs h0
  generalize s.l.length = n at HC HP
  obtain ⟨q, hq⟩ : ∃ q, idxI p n = q := ⟨_, rfl⟩
  rw [hq] at HC HP
  clear hq
  generalize s.v = v at HC
  go_enter Tryz.func210, Tryz.ntmps210
  go_wp2_with fail
  refine HC.out.mono ?_
  rintro en w1 ⟨rfl, hb⟩
  go_wp2
  go_ret
  exact ⟨ret_boolT HP.out, hb⟩

theorem faultySet_any (p : Nat → Bool) (I : Nat → World → Prop) (f : Nat) (cap : Array Value) (s : Sl SetM) (m : Int) (B : Nat) (w : World) (hs : setsOk w B s) (hB : B ≤ w.heap.size) (h0 : I 0 w)
    (he : ∀ args w, (callFunc f args).run Tryz.prog w = .ok (.enter f args) w) (hf : ∀ k x wr, s.l[k]? = some x → Below B w wr → I k wr → Calls Tryz.prog f (#[x.v] ++ cap) wr (Ans B wr (p k) (I (k + 1)))) :
    Calls Tryz.prog 190 #[s.v, .int .i64 m, .func (.func f) #[] cap] w fun e w' => e = .returned (.bool (decide (m < s.l.length) || anyB p s.l.length)) ∧ Below B w w' := by
  have HC := hide_ (containsSet_any p I f cap s B w hs hB h0 he hf)
  have hnm : s.l.length ≤ 9223372036854775807 := by have h1 := hs.1; have h2 := hs.2.1; unfold maxLen at h2; omega
  clear hf he hs h0
  obtain ⟨A, c, l⟩ := s
  obtain ⟨n, hn⟩ : ∃ n, l.length = n := ⟨_, rfl⟩
  simp only [Sl.v, hn] at HC hnm ⊢
  clear hn
  by_cases h : m < n
  · have HR := hide_ (show (decide (m < (n : Int)) || anyB p n) = true by simp [h])
    go_enter Tryz.func190, Tryz.ntmps190
    go_wp2
    go_ret
    exact ⟨ret_boolT HR.out.symm, Below.refl _ _⟩
  · have hd : decide (m < (n : Int)) = false := decide_eq_false h
    have HR := hide_ (show (decide (m < (n : Int)) || anyB p n) = anyB p n by simp [h])
    go_enter Tryz.func190, Tryz.ntmps190
    go_wp2_with fail
    refine HC.out.mono ?_
    rintro en w1 ⟨rfl, hb⟩
    go_wp2
    go_ret
    exact ⟨ret_boolT HR.out.symm, hb⟩

set_option maxHeartbeats 800000 in
set_option maxRecDepth 100000 in
theorem indexEmit_any (p : Nat → Bool) (I : Nat → World → Prop) (f : Nat) (cap : Array Value) (s : Sl EmM) (B : Nat) (w : World) (hs : emsOk w B s) (hB : B ≤ w.heap.size) (h0 : I 0 w)
    (he : ∀ args w, (callFunc f args).run Tryz.prog w = .ok (.enter f args) w) (hf : ∀ k x wr, s.l[k]? = some x → Below B w wr → I k wr → Calls Tryz.prog f (#[x.v] ++ cap) wr (Ans B wr (p k) (I (k + 1)))) :
    Calls Tryz.prog 220 #[s.v, .func (.func f) #[] cap] w fun e w' => e = .returned (.int .i64 (idxI p s.l.length)) ∧ Below B w w' := by
  obtain ⟨A, c, l⟩ := s
  obtain ⟨h1, h2, h3, h4⟩ := hs
  obtain ⟨n, hn⟩ : ∃ n, l.length = n := ⟨_, rfl⟩
  have HS := hide_ h3
  have HF := hide_ hf
  have HN := hide_ hn
  have HI := hide_ h0
  simp only [Sl.v, hn] at h1 h2 ⊢
  have hnm : n ≤ 9223372036854775807 := by unfold maxLen at h2; omega
  clear h3 hf hn h0 h4 h1 h2
  go_enter Tryz.func220, Tryz.ntmps220
  go_wp2
  go_loopw [8] (fun i wr => ∃ k : Nat, k ≤ n ∧ i = .int .i64 k ∧ Hid (∀ j, j < k → p j = false) ∧ Hid (I k wr) ∧ Below B w wr) (fun i _ => n - (intOf i).toNat)
  case atStart => exact ⟨0, Nat.zero_le _, rfl, (fun j hj => absurd hj (by omega)), HI.out, Below.refl _ _⟩
  case round =>
    obtain ⟨k, hk, rfl, HJ, HK, hb⟩ := hrel
    by_cases hlt : k < n
    · obtain ⟨x, hx⟩ : ∃ x, l[k]? = some x := ⟨_, List.getElem?_eq_getElem (by rw [HN.out]; exact hlt)⟩
      have hs1 := HS.out.below hb
      obtain ⟨tb, ot, rfl, hab, e0, e1, e2⟩ := hs1.em hx
      have hwz : tb < wr.heap.size := by have := hb.size; omega
      have HC := hide_ (HF.out k x wr hx hb HK.out)
      have HX := hide_ hx
      clear hx hs1
      obtain ⟨tg, ac, ar⟩ := x
      go_wp2_with fail
      refine HC.out.mono ?_
      rintro en w2 ⟨rfl, hI2, hb2⟩
      have HI2 := hide_ hI2
      clear hI2
      cases hp : p k with
      | true =>
        have HP := hide_ (show idxI p n = k from idxI_hit hlt hp HJ.out)
        clear hp
        go_wp2
        go_ret
        exact ⟨ret_i64T HP.out.symm, hb.trans hb2⟩
      | false =>
        have HJ2 := hide_ (show ∀ j, j < k + 1 → p j = false from fun j hj => by
          by_cases h : j = k
          · rw [h]; exact hp
          · exact HJ.out j (by omega))
        have HI3 := hide_ (HI2.out hp)
        clear hp
        go_wp2
        go_roundw
        case rel => exact ⟨k + 1, by omega, by go_num, HJ2, HI3, hb.trans hb2⟩
        case measure => simp [intOf]; omega
    · obtain rfl : k = n := by omega
      have HP := hide_ (show idxI p k = -1 from idxI_none HJ.out)
      go_wp2
      go_ret
      exact ⟨ret_i64T HP.out.symm, hb⟩

theorem containsEmit_any (p : Nat → Bool) (I : Nat → World → Prop) (f : Nat) (cap : Array Value) (s : Sl EmM) (B : Nat) (w : World) (hs : emsOk w B s) (hB : B ≤ w.heap.size) (h0 : I 0 w)
    (he : ∀ args w, (callFunc f args).run Tryz.prog w = .ok (.enter f args) w) (hf : ∀ k x wr, s.l[k]? = some x → Below B w wr → I k wr → Calls Tryz.prog f (#[x.v] ++ cap) wr (Ans B wr (p k) (I (k + 1)))) :
    Calls Tryz.prog 211 #[s.v, .func (.func f) #[] cap] w fun e w' => e = .returned (.bool (anyB p s.l.length)) ∧ Below B w w' := by
  have HC := hide_ (indexEmit_any p I f cap s B w hs hB h0 he hf)
  have HP := hide_ (anyB_idx p s.l.length)
  clear hf he hs h0
  generalize s.l.length = n at HC HP
  obtain ⟨q, hq⟩ : ∃ q, idxI p n = q := ⟨_, rfl⟩
  rw [hq] at HC HP
  clear hq
  generalize s.v = v at HC
  go_enter Tryz.func211, Tryz.ntmps211
  go_wp2_with fail
  refine HC.out.mono ?_
  rintro en w1 ⟨rfl, hb⟩
  go_wp2
  go_ret
  exact ⟨ret_boolT HP.out, hb⟩

theorem faultyEmit_any (p : Nat → Bool) (I : Nat → World → Prop) (f : Nat) (cap : Array Value) (s : Sl EmM) (m : Int) (B : Nat) (w : World) (hs : emsOk w B s) (hB : B ≤ w.heap.size) (h0 : I 0 w)
    (he : ∀ args w, (callFunc f args).run Tryz.prog w = .ok (.enter f args) w) (hf : ∀ k x wr, s.l[k]? = some x → Below B w wr → I k wr → Calls Tryz.prog f (#[x.v] ++ cap) wr (Ans B wr (p k) (I (k + 1)))) :
    Calls Tryz.prog 192 #[s.v, .int .i64 m, .func (.func f) #[] cap] w fun e w' => e = .returned (.bool (decide (m < s.l.length) || anyB p s.l.length)) ∧ Below B w w' := by
  have HC := hide_ (containsEmit_any p I f cap s B w hs hB h0 he hf)
  have hnm : s.l.length ≤ 9223372036854775807 := by have h1 := hs.1; have h2 := hs.2.1; unfold maxLen at h2; omega
  clear hf he hs h0
  obtain ⟨A, c, l⟩ := s
  obtain ⟨n, hn⟩ : ∃ n, l.length = n := ⟨_, rfl⟩
  simp only [Sl.v, hn] at HC hnm ⊢
  clear hn
  by_cases h : m < n
  · have HR := hide_ (show (decide (m < (n : Int)) || anyB p n) = true by simp [h])
    go_enter Tryz.func192, Tryz.ntmps192
    go_wp2
    go_ret
    exact ⟨ret_boolT HR.out.symm, Below.refl _ _⟩
  · have hd : decide (m < (n : Int)) = false := decide_eq_false h
    have HR := hide_ (show (decide (m < (n : Int)) || anyB p n) = anyB p n by simp [h])
    go_enter Tryz.func192, Tryz.ntmps192
    go_wp2_with fail
    refine HC.out.mono ?_
    rintro en w1 ⟨rfl, hb⟩
    go_wp2
    go_ret
    exact ⟨ret_boolT HR.out.symm, hb⟩

end Go.Proofs.YtkgnondlcaklnaaGreat
