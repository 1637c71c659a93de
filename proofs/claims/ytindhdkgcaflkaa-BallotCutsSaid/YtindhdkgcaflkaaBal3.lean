/-
  Contracts of ballot.Put and ballot.Get; what is put is got, as plain facts on lists.
-/
import Derived.Test.YtindhdkgcaflkaaBal2
namespace Go.Proofs.Ytindhdkgcaflkaa
open Go.RowKit

/-- a ballot's bytes -/
def balB (c n l : Nat) : List UInt8 := numB c ++ (numB n ++ numB l)
theorem balB_length {c n l : Nat} (hc : c < 18446744073709551616) (hn : n ≤ 255) (hl : l ≤ 4294967295) : (balB c n l).length ≤ 30 := by
  have h1 := numB_length c hc
  have h2 := numB_length n (by omega)
  have h3 := numB_length l (by omega)
  simp [balB]
  omega
theorem balB_pos (c n l : Nat) : 3 ≤ (balB c n l).length := by
  have h1 := numB_pos c
  have h2 := numB_pos n
  have h3 := numB_pos l
  simp [balB]
  omega

theorem BalPut_any (p r : List UInt8) (c n l B : Nat) (A : Option Addr) (k cap : Nat) (w : World) (hk : p.length = k) (hres : p ++ balB c n l = r) (hc : c < 18446744073709551616) (hn : n ≤ 255) (hl : l ≤ 4294967295)
    (hs : Sees w B A (bv p)) (hB : B ≤ w.heap.size) (hp : p.length ≤ 70368744170000) :
    Calls Try.prog 11 #[.slice A k cap, .agg #[.int .u64 c, .int .u8 n, .int .u32 l]] w (Puts w r) := by
  obtain ⟨r1, h1⟩ : ∃ x, p ++ numB c = x := ⟨_, rfl⟩
  obtain ⟨r2, h2⟩ : ∃ x, r1 ++ numB n = x := ⟨_, rfl⟩
  have h3 : r2 ++ numB l = r := by rw [← h2, ← h1, ← hres, balB]; simp
  have hl1 := numB_length c hc
  have hl2 := numB_length n (by omega)
  have l1 : r1.length ≤ 70368744170010 := by rw [← h1, List.length_append]; omega
  have l2 : r2.length ≤ 70368744170020 := by rw [← h2, List.length_append]; omega
  have HK := hide_ hk
  have H1 := hide_ h1
  have H2 := hide_ h2
  have H3 := hide_ h3
  have HC := hide_ hc
  clear hk h1 h2 h3 hres hc hl1 hl2
  go_enter Try.func11, Try.ntmps11
  go_wp2_with fail
  refine (PutNum_any p r1 c B A k cap _ HK.out H1.out HC.out (hs.below ((Below.refl _ _).alloc hB _)) (by simp; omega) (by omega)).mono ?_
  rintro e w1 ⟨A1, c1, rfl, hown1, hb1⟩
  have hz1 : w.heap.size + 1 ≤ w1.heap.size := by have := hb1.size; simp at this; omega
  have e1 : w1.cell? ⟨w.heap.size, 1, none⟩ = some (.int .u8 n) := by rw [hb1.cell (by simp)]; simp [go_sem]
  have e2 : w1.cell? ⟨w.heap.size, 2, none⟩ = some (.int .u32 l) := by rw [hb1.cell (by simp)]; simp [go_sem]
  have E2 := hide_ e2
  clear e2
  go_wp2_with fail
  refine (PutNum_any r1 r2 n w1.heap.size A1 _ c1 w1 rfl H2.out (by omega) (Sees.own hown1) (Nat.le_refl _) (by omega)).mono ?_
  rintro e w2 ⟨A2, c2, rfl, hown2, hb2⟩
  have hz2 := hb2.size
  clear e1
  have e2 : w2.cell? ⟨w.heap.size, 2, none⟩ = some (.int .u32 l) := (hb2.cell (by simp; omega)).trans E2.out
  go_wp2_with fail
  refine (PutNum_any r2 r l w2.heap.size A2 _ c2 w2 rfl H3.out (by omega) (Sees.own hown2) (Nat.le_refl _) (by omega)).mono ?_
  rintro e w3 ⟨A3, c3, rfl, hown3, hb3⟩
  go_wp2
  go_ret
  exact ⟨A3, c3, rfl, own_mono hown3 (by omega), ((Below.refl _ _).alloc (Nat.le_refl _) _).trans ((hb1.trans ((hb2.trans (hb3.mono hz2)).mono hb1.size)).mono (by simp))⟩

/-- the ballot that stands next -/
def takeB (l : List UInt8) : ((Nat × Nat × Nat) × List UInt8) ⊕ Int :=
  match takeUp 18446744073709551615 l with
  | .inr er => .inr er
  | .inl (c, t) =>
    match takeUp 255 t with
    | .inr er => .inr er
    | .inl (n, u) =>
      match takeUp 4294967295 u with
      | .inr er => .inr er
      | .inl (m, v) => .inl ((c, n, m), v)
theorem takeB_put {c n l : Nat} (t : List UInt8) (hc : c < 18446744073709551616) (hn : n ≤ 255) (hl : l ≤ 4294967295) : takeB (balB c n l ++ t) = .inl ((c, n, l), t) := by
  rw [takeB, balB, List.append_assoc, takeUp_put c _ _ hc (by omega)]
  simp only
  rw [List.append_assoc, takeUp_put n _ _ (by omega) hn]
  simp only
  rw [takeUp_put l _ _ (by omega) hl]
theorem takeB_short {c n l k : Nat} (hc : c < 18446744073709551616) (hn : n ≤ 255) (hl : l ≤ 4294967295) (hk : k < (balB c n l).length) : takeB ((balB c n l).take k) = .inr 2 := by
  rw [takeB, balB, List.take_append]
  by_cases h1 : k < (numB c).length
  · rw [Nat.sub_eq_zero_of_le (by omega), List.take_zero, List.append_nil, takeUp_short c k _ hc h1]
  · rw [List.take_of_length_le (by omega), takeUp_put c _ _ hc (by omega)]
    simp only
    rw [List.take_append]
    by_cases h2 : k - (numB c).length < (numB n).length
    · rw [Nat.sub_eq_zero_of_le (m := (numB n).length) (by omega), List.take_zero, List.append_nil, takeUp_short n _ _ (by omega) h2]
    · rw [List.take_of_length_le (l := numB n) (by omega), takeUp_put n _ _ (by omega) hn]
      simp only
      rw [balB, List.length_append, List.length_append] at hk
      rw [takeUp_short l _ _ (by omega) (by omega)]
theorem takeUp_er {most : Nat} {l : List UInt8} {er : Int} (h : takeUp most l = .inr er) : er = 2 ∨ er = 3 ∨ er = 6 := by
  rw [takeUp] at h
  rcases ht : takeN 0 0 l with ⟨n, t⟩ | e
  · rw [ht] at h
    simp only at h
    split at h
    · injection h with h
      omega
    · cases h
  · rw [ht] at h
    injection h with h
    rcases takeN_er l 0 0 ht with rfl | rfl <;> omega
theorem takeUp_left {most n : Nat} {l t : List UInt8} (h : takeUp most l = .inl (n, t)) : t.length < l.length ∧ n ≤ most := by
  rw [takeUp] at h
  rcases ht : takeN 0 0 l with ⟨x, u⟩ | e
  · rw [ht] at h
    simp only at h
    split at h
    · cases h
    · injection h with h
      injection h with h1 h2
      subst h1 h2
      exact ⟨takeN_left l 0 0 ht, by omega⟩
  · rw [ht] at h
    cases h

theorem failed_live {g : Nat} {l : List UInt8} {w : World} (h : Rdr w g l 0) : Calls Try.prog 23 #[.pointer (some ⟨g, 0, none⟩)] w fun e w' => e = .returned (.bool false) ∧ w = w' := by
  by_cases hl : l = []
  · go_enter Try.func23, Try.ntmps23
    go_wp2_with (refine (End_live h 0 (by rw [if_pos rfl, if_pos hl])).mono ?_; rintro e w1 ⟨rfl, rfl⟩)
    go_ret
    exact ⟨rfl, rfl⟩
  · go_enter Try.func23, Try.ntmps23
    go_wp2_with (refine (End_live h 4 (by rw [if_pos rfl, if_neg hl])).mono ?_; rintro e w1 ⟨rfl, rfl⟩)
    go_ret
    exact ⟨rfl, rfl⟩
theorem failed_err {g : Nat} {l : List UInt8} {er : Int} {w : World} (h : Rdr w g l er) (h0 : er ≠ 0) (h4 : er ≠ 4) : Calls Try.prog 23 #[.pointer (some ⟨g, 0, none⟩)] w fun e w' => e = .returned (.bool true) ∧ w = w' := by
  have b0 : (er != 0) = true := by rw [bne_iff_ne]; exact h0
  have b4 : (er != 4) = true := by rw [bne_iff_ne]; exact h4
  have H := hide_ (show er = if er = 0 then (if l = [] then 0 else 4) else er by rw [if_neg h0])
  clear h0 h4
  go_enter Try.func23, Try.ntmps23
  go_wp2_with (refine (End_live h er H.out).mono ?_; rintro e w1 ⟨rfl, rfl⟩)
  go_ret
  exact ⟨rfl, rfl⟩
end Go.Proofs.Ytindhdkgcaflkaa
