/-
  Texts of this claim put together: Bal2, Bal3, Bal4.
-/
import Derived.Test.YtnkjdijbfnmnhaaGreatJ06
import Derived.Test.YtnkjdijbfnmnhaaGreatJ23
/-
  Contracts of ballot's other functions and of the document's own answers: Less, Compare, None, Next, Put, Get.
-/
namespace Go.Proofs.YtnkjdijbfnmnhaaGreat
open Go.RowKit

/-- does a ballot stand ahead? -/
def lessB (c n l c' n' l' : Nat) : Bool := if c ≠ c' then decide (c < c') else if n ≠ n' then decide (n < n') else decide (l < l')
theorem cmpN_less (a b : Nat) : cmpN a b = if decide (a < b) = true then -1 else if decide (b < a) = true then 1 else 0 := by simp [cmpN]
theorem cmpN_ne {a b : Nat} (h : ¬a = b) : cmpN a b ≠ 0 := by
  rcases cmpN_cases a b with ⟨_, e⟩ | ⟨_, e⟩ | ⟨h', _⟩
  · rw [e]; decide
  · rw [e]; decide
  · exact absurd h' h
theorem cmpB_less (c n l c' n' l' : Nat) : cmpB c n l c' n' l' = if lessB c n l c' n' l' = true then -1 else if lessB c' n' l' c n l = true then 1 else 0 := by
  by_cases h1 : c = c'
  · subst h1
    by_cases h2 : n = n'
    · subst h2
      have e1 : cmpB c n l c n l' = cmpN l l' := by simp [cmpB, cmpN_eq]
      have e2 : lessB c n l c n l' = decide (l < l') := by simp [lessB]
      have e3 : lessB c n l' c n l = decide (l' < l) := by simp [lessB]
      rw [e1, e2, e3]
      exact cmpN_less l l'
    · have e1 : cmpB c n l c n' l' = cmpN n n' := by simp [cmpB, cmpN_eq, cmpN_ne h2]
      have e2 : lessB c n l c n' l' = decide (n < n') := by simp [lessB, h2]
      have e3 : lessB c n' l' c n l = decide (n' < n) := by simp [lessB, Ne.symm h2]
      rw [e1, e2, e3]
      exact cmpN_less n n'
  · have e1 : cmpB c n l c' n' l' = cmpN c c' := by simp [cmpB, cmpN_ne h1]
    have e2 : lessB c n l c' n' l' = decide (c < c') := by simp [lessB, h1]
    have e3 : lessB c' n' l' c n l = decide (c' < c) := by simp [lessB, Ne.symm h1]
    rw [e1, e2, e3]
    exact cmpN_less c c'

theorem refLess_any (c n l c' n' l' : Nat) (w : World) : Calls Tryz.prog 63 #[.agg #[.int .u64 c, .int .u8 n, .int .u32 l], .agg #[.int .u64 c', .int .u8 n', .int .u32 l']] w fun e w' =>
    e = .returned (.bool (lessB c n l c' n' l')) ∧ Below w.heap.size w w' := by
  by_cases h1 : c = c'
  · by_cases h2 : n = n'
    · have hr : lessB c n l c' n' l' = decide (l < l') := by simp [lessB, h1, h2]
      rw [hr]
      clear hr
      subst h1 h2
      go_enter Tryz.func63, Tryz.ntmps63
      go_wp2
      go_ret
      exact ⟨rfl, ((Below.refl _ _).alloc (Nat.le_refl _) _).alloc (by simp) _⟩
    · have hr : lessB c n l c' n' l' = decide (n < n') := by simp [lessB, h1, h2]
      rw [hr]
      clear hr
      subst h1
      go_enter Tryz.func63, Tryz.ntmps63
      go_wp2
      go_ret
      exact ⟨rfl, ((Below.refl _ _).alloc (Nat.le_refl _) _).alloc (by simp) _⟩
  · have hr : lessB c n l c' n' l' = decide (c < c') := by simp [lessB, h1]
    rw [hr]
    clear hr
    go_enter Tryz.func63, Tryz.ntmps63
    go_wp2
    go_ret
    exact ⟨rfl, ((Below.refl _ _).alloc (Nat.le_refl _) _).alloc (by simp) _⟩

theorem None_yes (w : World) : Calls Tryz.prog 201 #[.agg #[.int .u64 0, .int .u8 0, .int .u32 0]] w fun e w' => e = .returned (.bool true) ∧ Below w.heap.size w w' := by
  go_enter Tryz.func201, Tryz.ntmps201
  go_wp2
  go_ret
  exact ⟨rfl, (Below.refl _ _).alloc (Nat.le_refl _) _⟩
theorem None_no (c n l : Nat) (h : ¬(c = 0 ∧ n = 0 ∧ l = 0)) (w : World) : Calls Tryz.prog 201 #[.agg #[.int .u64 c, .int .u8 n, .int .u32 l]] w fun e w' => e = .returned (.bool false) ∧ Below w.heap.size w w' := by
  have H := hide_ h
  clear h
  go_enter Tryz.func201, Tryz.ntmps201
  go_wp2
  · exact absurd ⟨‹c = 0›, ‹n = 0›, ‹l = 0›⟩ H.out
  all_goals
    go_ret
    exact ⟨rfl, (Below.refl _ _).alloc (Nat.le_refl _) _⟩

end Go.Proofs.YtnkjdijbfnmnhaaGreat
/-
  Contracts of ballot.Put and ballot.Get; what is put is got, as plain facts on lists.
-/
namespace Go.Proofs.YtnkjdijbfnmnhaaGreat
open Go.RowKit

/-- a ballot's bytes -/
def balB (c n l : Nat) : List UInt8 := numB c ++ (numB n ++ numB l)
theorem balB_length {c n l : Nat} (hc : c < 18446744073709551616) (hn : n ≤ 255) (hl : l ≤ 4294967295) : (balB c n l).length ≤ 30 := by
  have h1 := numB_length c hc
  have h2 := numB_length n (by omega)
  have h3 := numB_length l (by omega)
  simp [balB]
  omega
theorem balB_pos (c n l : Nat) : 3 ≤ (balB c n l).length := by
  have h1 := numB_pos c
  have h2 := numB_pos n
  have h3 := numB_pos l
  simp [balB]
  omega

theorem BalPut_any (p r : List UInt8) (c n l B : Nat) (A : Option Addr) (k cap : Nat) (w : World) (hk : p.length = k) (hres : p ++ balB c n l = r) (hc : c < 18446744073709551616) (hn : n ≤ 255) (hl : l ≤ 4294967295)
    (hs : Sees w B A (bv p)) (hB : B ≤ w.heap.size) (hp : p.length ≤ 70368744170000) :
    Calls Tryz.prog 119 #[.slice A k cap, .agg #[.int .u64 c, .int .u8 n, .int .u32 l]] w (Puts w r) := by
  obtain ⟨r1, h1⟩ : ∃ x, p ++ numB c = x := ⟨_, rfl⟩
  obtain ⟨r2, h2⟩ : ∃ x, r1 ++ numB n = x := ⟨_, rfl⟩
  have h3 : r2 ++ numB l = r := by rw [← h2, ← h1, ← hres, balB]; simp
  have hl1 := numB_length c hc
  have hl2 := numB_length n (by omega)
  have l1 : r1.length ≤ 70368744170010 := by rw [← h1, List.length_append]; omega
  have l2 : r2.length ≤ 70368744170020 := by rw [← h2, List.length_append]; omega
  have HK := hide_ hk
  have H1 := hide_ h1
  have H2 := hide_ h2
  have H3 := hide_ h3
  have HC := hide_ hc
  clear hk h1 h2 h3 hres hc hl1 hl2
  go_enter Tryz.func119, Tryz.ntmps119
  go_wp2_with fail
  refine (PutNum_any p r1 c B A k cap _ HK.out H1.out HC.out (hs.below ((Below.refl _ _).alloc hB _)) (by simp; omega) (by omega)).mono ?_
  rintro e w1 ⟨A1, c1, rfl, hown1, hb1⟩
  have hz1 : w.heap.size + 1 ≤ w1.heap.size := by have := hb1.size; simp at this; omega
  have e1 : w1.cell? ⟨w.heap.size, 1, none⟩ = some (.int .u8 n) := by rw [hb1.cell (by simp)]; simp [go_sem]
  have e2 : w1.cell? ⟨w.heap.size, 2, none⟩ = some (.int .u32 l) := by rw [hb1.cell (by simp)]; simp [go_sem]
  have E2 := hide_ e2
  clear e2
  go_wp2_with fail
  refine (PutNum_any r1 r2 n w1.heap.size A1 _ c1 w1 rfl H2.out (by omega) (Sees.own hown1) (Nat.le_refl _) (by omega)).mono ?_
  rintro e w2 ⟨A2, c2, rfl, hown2, hb2⟩
  have hz2 := hb2.size
  clear e1
  have e2 : w2.cell? ⟨w.heap.size, 2, none⟩ = some (.int .u32 l) := (hb2.cell (by simp; omega)).trans E2.out
  go_wp2_with fail
  refine (PutNum_any r2 r l w2.heap.size A2 _ c2 w2 rfl H3.out (by omega) (Sees.own hown2) (Nat.le_refl _) (by omega)).mono ?_
  rintro e w3 ⟨A3, c3, rfl, hown3, hb3⟩
  go_wp2
  go_ret
  exact ⟨A3, c3, rfl, own_mono hown3 (by omega), ((Below.refl _ _).alloc (Nat.le_refl _) _).trans ((hb1.trans ((hb2.trans (hb3.mono hz2)).mono hb1.size)).mono (by simp))⟩

/-- the ballot that stands next -/
def takeB (l : List UInt8) : ((Nat × Nat × Nat) × List UInt8) ⊕ Int :=
  match takeUp 18446744073709551615 l with
  | .inr er => .inr er
  | .inl (c, t) =>
    match takeUp 255 t with
    | .inr er => .inr er
    | .inl (n, u) =>
      match takeUp 4294967295 u with
      | .inr er => .inr er
      | .inl (m, v) => .inl ((c, n, m), v)
theorem takeB_put {c n l : Nat} (t : List UInt8) (hc : c < 18446744073709551616) (hn : n ≤ 255) (hl : l ≤ 4294967295) : takeB (balB c n l ++ t) = .inl ((c, n, l), t) := by
  rw [takeB, balB, List.append_assoc, takeUp_put c _ _ hc (by omega)]
  simp only
  rw [List.append_assoc, takeUp_put n _ _ (by omega) hn]
  simp only
  rw [takeUp_put l _ _ (by omega) hl]
theorem takeB_short {c n l k : Nat} (hc : c < 18446744073709551616) (hn : n ≤ 255) (hl : l ≤ 4294967295) (hk : k < (balB c n l).length) : takeB ((balB c n l).take k) = .inr 2 := by
  rw [takeB, balB, List.take_append]
  by_cases h1 : k < (numB c).length
  · rw [Nat.sub_eq_zero_of_le (by omega), List.take_zero, List.append_nil, takeUp_short c k _ hc h1]
  · rw [List.take_of_length_le (by omega), takeUp_put c _ _ hc (by omega)]
    simp only
    rw [List.take_append]
    by_cases h2 : k - (numB c).length < (numB n).length
    · rw [Nat.sub_eq_zero_of_le (m := (numB n).length) (by omega), List.take_zero, List.append_nil, takeUp_short n _ _ (by omega) h2]
    · rw [List.take_of_length_le (l := numB n) (by omega), takeUp_put n _ _ (by omega) hn]
      simp only
      rw [balB, List.length_append, List.length_append] at hk
      rw [takeUp_short l _ _ (by omega) (by omega)]
theorem takeUp_er {most : Nat} {l : List UInt8} {er : Int} (h : takeUp most l = .inr er) : er = 2 ∨ er = 3 ∨ er = 6 := by
  rw [takeUp] at h
  rcases ht : takeN 0 0 l with ⟨n, t⟩ | e
  · rw [ht] at h
    simp only at h
    split at h
    · injection h with h
      omega
    · cases h
  · rw [ht] at h
    injection h with h
    rcases takeN_er l 0 0 ht with rfl | rfl <;> omega
theorem takeUp_left {most n : Nat} {l t : List UInt8} (h : takeUp most l = .inl (n, t)) : t.length < l.length ∧ n ≤ most := by
  rw [takeUp] at h
  rcases ht : takeN 0 0 l with ⟨x, u⟩ | e
  · rw [ht] at h
    simp only at h
    split at h
    · cases h
    · injection h with h
      injection h with h1 h2
      subst h1 h2
      exact ⟨takeN_left l 0 0 ht, by omega⟩
  · rw [ht] at h
    cases h

theorem failed_live {g : Nat} {l : List UInt8} {w : World} (h : Rdr w g l 0) : Calls Tryz.prog 204 #[.pointer (some ⟨g, 0, none⟩)] w fun e w' => e = .returned (.bool false) ∧ w = w' := by
  by_cases hl : l = []
  · go_enter Tryz.func204, Tryz.ntmps204
    go_wp2_with (refine (End_live h 0 (by rw [if_pos rfl, if_pos hl])).mono ?_; rintro e w1 ⟨rfl, rfl⟩)
    go_ret
    exact ⟨rfl, rfl⟩
  · go_enter Tryz.func204, Tryz.ntmps204
    go_wp2_with (refine (End_live h 4 (by rw [if_pos rfl, if_neg hl])).mono ?_; rintro e w1 ⟨rfl, rfl⟩)
    go_ret
    exact ⟨rfl, rfl⟩
theorem failed_err {g : Nat} {l : List UInt8} {er : Int} {w : World} (h : Rdr w g l er) (h0 : er ≠ 0) (h4 : er ≠ 4) : Calls Tryz.prog 204 #[.pointer (some ⟨g, 0, none⟩)] w fun e w' => e = .returned (.bool true) ∧ w = w' := by
  have b0 : (er != 0) = true := by rw [bne_iff_ne]; exact h0
  have b4 : (er != 4) = true := by rw [bne_iff_ne]; exact h4
  have H := hide_ (show er = if er = 0 then (if l = [] then 0 else 4) else er by rw [if_neg h0])
  clear h0 h4
  go_enter Tryz.func204, Tryz.ntmps204
  go_wp2_with (refine (End_live h er H.out).mono ?_; rintro e w1 ⟨rfl, rfl⟩)
  go_ret
  exact ⟨rfl, rfl⟩
end Go.Proofs.YtnkjdijbfnmnhaaGreat

/-
  Contract of ballot.Get.
-/
namespace Go.Proofs.YtnkjdijbfnmnhaaGreat
open Go.RowKit

/-- what a call leaves that takes a ballot -/
def TakesB (w : World) (g : Nat) (r : ((Nat × Nat × Nat) × List UInt8) ⊕ Int) (e : Ending) (w' : World) : Prop :=
  match r with
  | .inl ((c, n, l), t) => Leaves w g (.agg #[.int .u64 c, .int .u8 n, .int .u32 l]) t 0 e w'
  | .inr er => Leaves w g (.agg #[.int .u64 0, .int .u8 0, .int .u32 0]) [] er e w'

theorem Rdr.ne {w : World} {g : Nat} {l : List UInt8} {er : Int} (h : Rdr w g l er) : g ≠ w.heap.size := Nat.ne_of_lt h.lt
theorem Rdr.alloc {w : World} {g : Nat} {l : List UInt8} {er : Int} (h : Rdr w g l er) (o : Obj) : Rdr (w.alloc o) g l er := h.below ((Below.refl _ _).alloc (Nat.le_refl _) _)
theorem far_cells {w w' : World} {g b : Nat} {cs : Array Value} {t : TypeId} (hg : w.grownBy w' (some g)) (hb : w.heap[b]? = some (.cells cs t (0, 0))) (hne : g ≠ b) : w'.heap[b]? = some (.cells cs t (0, 0)) :=
  (hg.block b (Array.getElem?_eq_some_iff.1 hb).1 (fun e => by injection e with e; exact hne e.symm)).trans hb

theorem Rdr.far {w : World} {g b i : Nat} {v : Value} {l : List UInt8} {er : Int} (h : Rdr w g l er) (hlt : g < b) : Rdr (w.setCell ⟨b, i, none⟩ v) g l er := by
  obtain ⟨A, c, hg, hs, hc⟩ := h
  exact ⟨A, c, (Below.heap_setCell w ⟨b, i, none⟩ v g (Nat.ne_of_lt hlt)).trans hg, hs.keep fun p hp => World.cell?_of_block (Below.heap_setCell w ⟨b, i, none⟩ v p.block (by simp; omega)), hc⟩
theorem grown_far {w w' : World} {g b i : Nat} {v : Value} (h : w.grownBy w' (some g)) (hb : w.heap.size ≤ b) : w.grownBy (w'.setCell ⟨b, i, none⟩ v) (some g) :=
  ⟨h.os, h.tape, h.output, by simpa [World.setCell] using h.size, fun k hk hne => (Below.heap_setCell w' ⟨b, i, none⟩ v k (by simp; omega)).trans (h.block k hk hne)⟩
theorem grown_first {w w' : World} {g : Nat} {o : Obj} (h : (w.alloc o).grownBy w' (some g)) : w.grownBy w' (some g) := (World.grownBy_alloc w o (some g)).trans h

theorem Num_u64 {g : Nat} {l : List UInt8} {w : World} (h : Rdr w g l 0) (hl : l.length ≤ 281474976710656) : Calls Tryz.prog 135 #[.pointer (some ⟨g, 0, none⟩), .int .u64 18446744073709551615] w (Takes w g (takeUp 18446744073709551615 l)) := Num_live 18446744073709551615 h hl
theorem Num_u8 {g : Nat} {l : List UInt8} {w : World} (h : Rdr w g l 0) (hl : l.length ≤ 281474976710656) : Calls Tryz.prog 135 #[.pointer (some ⟨g, 0, none⟩), .int .u64 255] w (Takes w g (takeUp 255 l)) := Num_live 255 h hl
theorem Num_u32 {g : Nat} {l : List UInt8} {w : World} (h : Rdr w g l 0) (hl : l.length ≤ 281474976710656) : Calls Tryz.prog 135 #[.pointer (some ⟨g, 0, none⟩), .int .u64 4294967295] w (Takes w g (takeUp 4294967295 l)) := Num_live 4294967295 h hl

set_option maxRecDepth 100000 in
theorem Get_live {g : Nat} {l : List UInt8} {w : World} (h : Rdr w g l 0) (hl : l.length ≤ 281474976710656) : Calls Tryz.prog 133 #[.pointer (some ⟨g, 0, none⟩)] w (TakesB w g (takeB l)) := by
  have hne := h.ne
  have LT := hide_ h.lt
  have h0 := h.alloc (.cells #[.int .u64 0, .int .u8 0, .int .u32 0] 49)
  have hnew := heap_alloc_new w (.cells #[.int .u64 0, .int .u8 0, .int .u32 0] 49)
  have HN := hide_ hnew
  have NE := hide_ hne
  clear h hnew hne
  rcases ht : takeUp 18446744073709551615 l with ⟨c, t⟩ | er
  · obtain ⟨hlt, hc⟩ := takeUp_left ht
    rcases hu : takeUp 255 t with ⟨n, u⟩ | er
    · obtain ⟨hlu, hn⟩ := takeUp_left hu
      rcases hv : takeUp 4294967295 u with ⟨m, v⟩ | er
      · obtain ⟨hlv, hm⟩ := takeUp_left hv
        have hr : takeB l = .inl ((c, n, m), v) := by simp [takeB, ht, hu, hv]
        rw [hr]
        have HT := hide_ ht
        have HU := hide_ hu
        have HV := hide_ hv
        have HC := hide_ hc
        clear hr ht hu hv hc
        go_enter Tryz.func133, Tryz.ntmps133
        go_wp2_with fail
        refine (Num_u64 h0 hl).mono ?_
        rw [HT.out]
        rintro e w1 ⟨rfl, hr1, hg1⟩
        go_wp2_with fail
        refine (Num_u8 hr1 (by omega)).mono ?_
        rw [HU.out]
        rintro e w2 ⟨rfl, hr2, hg2⟩
        go_wp2_with fail
        refine (Num_u32 hr2 (by omega)).mono ?_
        rw [HV.out]
        rintro e w3 ⟨rfl, hr3, hg3⟩
        have k3 := far_cells hg3 (far_cells hg2 (far_cells hg1 HN.out NE.out) NE.out) NE.out
        have hg13 := grown_join hg1 (grown_join hg2 hg3)
        have q0 : w3.cell? ⟨w.heap.size, 0, none⟩ = some (.int .u64 0) := by rw [cell_of_row _ _ 0 _ _ _ k3]; rfl
        have q1 : w3.cell? ⟨w.heap.size, 1, none⟩ = some (.int .u8 0) := by rw [cell_of_row _ _ 1 _ _ _ k3]; rfl
        have q2 : w3.cell? ⟨w.heap.size, 2, none⟩ = some (.int .u32 0) := by rw [cell_of_row _ _ 2 _ _ _ k3]; rfl
        have f0 : w3.frozen? ⟨w.heap.size, 0, none⟩ = false := by simp [World.frozen?, k3]
        have f1 : w3.frozen? ⟨w.heap.size, 1, none⟩ = false := by simp [World.frozen?, k3]
        have f2 : w3.frozen? ⟨w.heap.size, 2, none⟩ = false := by simp [World.frozen?, k3]
        have K3 := hide_ k3
        clear k3
        go_wp2_with (refine (failed_live hr3).mono ?_; rintro e w4 ⟨rfl, rfl⟩)
        refine bodyPost_ret (v := .agg #[.int .u64 c, .int .u8 n, .int .u32 m]) (by simp [results, Tryz.results133, go_sem, q0, q1, q2]) rfl ?_
        exact ⟨rfl, ((hr3.far LT.out).far LT.out).far LT.out, grown_far (grown_far (grown_far (grown_first hg13) (Nat.le_refl _)) (Nat.le_refl _)) (Nat.le_refl _)⟩
      · have her := takeUp_er hv
        have hr : takeB l = .inr er := by simp [takeB, ht, hu, hv]
        rw [hr]
        have HT := hide_ ht
        have HU := hide_ hu
        have HV := hide_ hv
        have h0' : er ≠ 0 := by omega
        have h4' : er ≠ 4 := by omega
        have H0 := hide_ h0'
        have H4 := hide_ h4'
        clear hr her h0' h4' ht hu hv
        go_enter Tryz.func133, Tryz.ntmps133
        go_wp2_with fail
        refine (Num_u64 h0 hl).mono ?_
        rw [HT.out]
        rintro e w1 ⟨rfl, hr1, hg1⟩
        go_wp2_with fail
        refine (Num_u8 hr1 (by omega)).mono ?_
        rw [HU.out]
        rintro e w2 ⟨rfl, hr2, hg2⟩
        go_wp2_with fail
        refine (Num_u32 hr2 (by omega)).mono ?_
        rw [HV.out]
        rintro e w3 ⟨rfl, hr3, hg3⟩
        have k3 := far_cells hg3 (far_cells hg2 (far_cells hg1 (HN.out) NE.out) NE.out) NE.out
        have hg13 := grown_join (grown_join (hg1) hg2) hg3
        have q0 : w3.cell? ⟨w.heap.size, 0, none⟩ = some (.int .u64 0) := by rw [cell_of_row _ _ 0 _ _ _ k3]; rfl
        have q1 : w3.cell? ⟨w.heap.size, 1, none⟩ = some (.int .u8 0) := by rw [cell_of_row _ _ 1 _ _ _ k3]; rfl
        have q2 : w3.cell? ⟨w.heap.size, 2, none⟩ = some (.int .u32 0) := by rw [cell_of_row _ _ 2 _ _ _ k3]; rfl
        have f0 : w3.frozen? ⟨w.heap.size, 0, none⟩ = false := by simp [World.frozen?, k3]
        have f1 : w3.frozen? ⟨w.heap.size, 1, none⟩ = false := by simp [World.frozen?, k3]
        have f2 : w3.frozen? ⟨w.heap.size, 2, none⟩ = false := by simp [World.frozen?, k3]
        have K3 := hide_ k3
        clear k3
        go_wp2_with (refine (failed_err hr3 H0.out H4.out).mono ?_; rintro e w4 ⟨rfl, rfl⟩)
        refine bodyPost_ret (v := .agg #[.int .u64 0, .int .u8 0, .int .u32 0]) (by simp [results, Tryz.results133, go_sem, q0, q1, q2]) rfl ?_
        exact ⟨rfl, ((hr3.far LT.out).far LT.out).far LT.out, grown_far (grown_far (grown_far (grown_first hg13) (Nat.le_refl _)) (Nat.le_refl _)) (Nat.le_refl _)⟩
    · have her := takeUp_er hu
      have hr : takeB l = .inr er := by simp [takeB, ht, hu]
      rw [hr]
      have HT := hide_ ht
      have HU := hide_ hu
      have h0' : er ≠ 0 := by omega
      have h4' : er ≠ 4 := by omega
      have H0 := hide_ h0'
      have H4 := hide_ h4'
      clear hr her h0' h4' ht hu
      go_enter Tryz.func133, Tryz.ntmps133
      go_wp2_with fail
      refine (Num_u64 h0 hl).mono ?_
      rw [HT.out]
      rintro e w1 ⟨rfl, hr1, hg1⟩
      go_wp2_with fail
      refine (Num_u8 hr1 (by omega)).mono ?_
      rw [HU.out]
      rintro e w2 ⟨rfl, hr2, hg2⟩
      go_wp2_with fail
      refine (Num_err 4294967295 hr2 H0.out).mono ?_
      rintro e w3 ⟨rfl, rfl⟩
      have k3 := far_cells hg2 (far_cells hg1 (HN.out) NE.out) NE.out
      have hg13 := grown_join (hg1) hg2
      have q0 : w2.cell? ⟨w.heap.size, 0, none⟩ = some (.int .u64 0) := by rw [cell_of_row _ _ 0 _ _ _ k3]; rfl
      have q1 : w2.cell? ⟨w.heap.size, 1, none⟩ = some (.int .u8 0) := by rw [cell_of_row _ _ 1 _ _ _ k3]; rfl
      have q2 : w2.cell? ⟨w.heap.size, 2, none⟩ = some (.int .u32 0) := by rw [cell_of_row _ _ 2 _ _ _ k3]; rfl
      have f0 : w2.frozen? ⟨w.heap.size, 0, none⟩ = false := by simp [World.frozen?, k3]
      have f1 : w2.frozen? ⟨w.heap.size, 1, none⟩ = false := by simp [World.frozen?, k3]
      have f2 : w2.frozen? ⟨w.heap.size, 2, none⟩ = false := by simp [World.frozen?, k3]
      have K3 := hide_ k3
      clear k3
      go_wp2_with (refine (failed_err hr2 H0.out H4.out).mono ?_; rintro e w4 ⟨rfl, rfl⟩)
      refine bodyPost_ret (v := .agg #[.int .u64 0, .int .u8 0, .int .u32 0]) (by simp [results, Tryz.results133, go_sem, q0, q1, q2]) rfl ?_
      exact ⟨rfl, ((hr2.far LT.out).far LT.out).far LT.out, grown_far (grown_far (grown_far (grown_first hg13) (Nat.le_refl _)) (Nat.le_refl _)) (Nat.le_refl _)⟩
  · have her := takeUp_er ht
    have hr : takeB l = .inr er := by simp [takeB, ht]
    rw [hr]
    have HT := hide_ ht
    have h0' : er ≠ 0 := by omega
    have h4' : er ≠ 4 := by omega
    have H0 := hide_ h0'
    have H4 := hide_ h4'
    clear hr her h0' h4' ht
    go_enter Tryz.func133, Tryz.ntmps133
    go_wp2_with fail
    refine (Num_u64 h0 hl).mono ?_
    rw [HT.out]
    rintro e w1 ⟨rfl, hr1, hg1⟩
    go_wp2_with fail
    refine (Num_err 255 hr1 H0.out).mono ?_
    rintro e w2 ⟨rfl, rfl⟩
    go_wp2_with fail
    refine (Num_err 4294967295 hr1 H0.out).mono ?_
    rintro e w3 ⟨rfl, rfl⟩
    have k3 := far_cells hg1 (HN.out) NE.out
    have hg13 := hg1
    have q0 : w1.cell? ⟨w.heap.size, 0, none⟩ = some (.int .u64 0) := by rw [cell_of_row _ _ 0 _ _ _ k3]; rfl
    have q1 : w1.cell? ⟨w.heap.size, 1, none⟩ = some (.int .u8 0) := by rw [cell_of_row _ _ 1 _ _ _ k3]; rfl
    have q2 : w1.cell? ⟨w.heap.size, 2, none⟩ = some (.int .u32 0) := by rw [cell_of_row _ _ 2 _ _ _ k3]; rfl
    have f0 : w1.frozen? ⟨w.heap.size, 0, none⟩ = false := by simp [World.frozen?, k3]
    have f1 : w1.frozen? ⟨w.heap.size, 1, none⟩ = false := by simp [World.frozen?, k3]
    have f2 : w1.frozen? ⟨w.heap.size, 2, none⟩ = false := by simp [World.frozen?, k3]
    have K3 := hide_ k3
    clear k3
    go_wp2_with (refine (failed_err hr1 H0.out H4.out).mono ?_; rintro e w4 ⟨rfl, rfl⟩)
    refine bodyPost_ret (v := .agg #[.int .u64 0, .int .u8 0, .int .u32 0]) (by simp [results, Tryz.results133, go_sem, q0, q1, q2]) rfl ?_
    exact ⟨rfl, ((hr1.far LT.out).far LT.out).far LT.out, grown_far (grown_far (grown_far (grown_first hg13) (Nat.le_refl _)) (Nat.le_refl _)) (Nat.le_refl _)⟩
end Go.Proofs.YtnkjdijbfnmnhaaGreat
