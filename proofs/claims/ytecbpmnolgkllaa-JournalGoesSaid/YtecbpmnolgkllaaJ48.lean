/-
  Texts of this claim put together: Jn16, Jn17, Jn18.
-/
import Derived.Test.YtecbpmnolgkllaaJ47
/-
  Contracts of slices.ContainsFunc at rows of bytes and isLong, and of the journal's Takes.
-/
namespace Go.Proofs.Ytecbpmnolgkllaa
open Go.RowKit

/-- rows of bytes as cells read, below block B -/
structure LRecs (w : World) (B : Nat) (A : Option Addr) (b o : Nat) (l : List (List UInt8)) : Prop where
  a : 0 < l.length → A = some ⟨b, o, none⟩ ∧ b < B
  r : ∀ (i : Nat) (r : List UInt8), l[i]? = some r → ∃ A1 c1, w.cell? ⟨b, o + i, none⟩ = some (.slice A1 r.length c1) ∧ Sees w B A1 (bv r)
theorem LRecs.below {w w' : World} {B b o : Nat} {A : Option Addr} {l : List (List UInt8)} (h : LRecs w B A b o l) (hb : Below B w w') : LRecs w' B A b o l :=
  ⟨h.a, fun i r e => by
    obtain ⟨A1, c1, h1, h2⟩ := h.r i r e
    have := (List.getElem?_eq_some_iff.1 e).1
    exact ⟨A1, c1, (hb.cell (p := ⟨b, o + i, none⟩) (h.a (by omega)).2).trans h1, h2.below hb⟩⟩

def longI (l : List (List UInt8)) : Bool := l.any fun r => decide (2048 < r.length)

theorem longI_take {l : List (List UInt8)} {i : Nat} {r : List UInt8} (h : l[i]? = some r) (hr : decide (2048 < r.length) = false) (hl : longI (l.take i) = false) : longI (l.take (i + 1)) = false := by
  have := (List.getElem?_eq_some_iff.1 h)
  obtain ⟨h1, rfl⟩ := this
  rw [List.take_succ_eq_append_getElem h1]
  unfold longI at hl ⊢
  rw [List.any_append, hl]
  simpa using hr

set_option maxRecDepth 100000 in
theorem index_any (w : World) (B : Nat) (A : Option Addr) (b o n c : Nat) (l : List (List UInt8)) (hn : l.length = n) (hn9 : n ≤ 1000000) (h : LRecs w B A b o l) :
    Calls Try.prog 57 #[.slice A n c, .func (.func 29) #[] #[]] w fun e w' => (∃ x : Int, e = .returned (.int .i64 x) ∧ (decide (0 ≤ x)) = longI l) ∧ w = w' := by
  have HI := hide_ isLong_any
  have HL := hide_ h
  have HN := hide_ hn
  clear h hn
  go_enter Try.func57, Try.ntmps57
  go_upto_region 1 with fail
  go_wp2
  go_loopw [5, 8] (fun s5 s8 wr => ∃ i : Nat, i ≤ n ∧ s8 = .int .i64 (i : Int) ∧ wr = w ∧ Hid (longI (l.take i) = false)) (fun _ s8 _ => n - (intOf s8).toNat)
  case atStart => exact ⟨0, Nat.zero_le _, rfl, rfl, hide_ rfl⟩
  case round =>
    obtain ⟨i, hi, rfl, rfl, HT⟩ := hrel
    by_cases hin : i < n
    · have hil : i < l.length := by rw [HN.out]; exact hin
      obtain ⟨A1, c1, x1, _⟩ := HL.out.r i l[i] (List.getElem?_eq_getElem hil)
      have hA := (HL.out.a (by omega)).1
      have hlt : ((i : Int) < (n : Int)) = True := by simp; omega
      have hw1 : IntKind.i64.wrap ((i : Int) + 1) = ((i + 1 : Nat) : Int) := by rw [IntKind.wrap_i64]; omega
      obtain ⟨r, hr⟩ : ∃ r, l[i] = r := ⟨_, rfl⟩
      have HRR := hide_ (show l[i]? = some r from by rw [List.getElem?_eq_getElem hil, hr])
      rw [hr] at x1
      subst hA
      clear hr
      by_cases hlong : 2048 < r.length
      · have e1 : decide (2048 < r.length) = true := by simpa using hlong
        have e2 : longI l = true := by
          unfold longI
          rw [List.any_eq_true]
          exact ⟨r, List.mem_of_getElem? HRR.out, e1⟩
        have HLI := hide_ (HI.out r.length A1 c1 wr)
        rw [e1] at HLI
        have E2 := hide_ e2
        clear e1 e2
        go_wp2_with (go_at_call 29; refine HLI.out.mono ?_; rintro _ _ ⟨rfl, rfl⟩)
        go_ret
        exact ⟨⟨_, rfl, by rw [E2.out]; simp⟩, rfl⟩
      · have e1 : decide (2048 < r.length) = false := by simpa using hlong
        have HLI := hide_ (HI.out r.length A1 c1 wr)
        rw [e1] at HLI
        have HT2 := hide_ (longI_take HRR.out e1 HT.out)
        clear e1
        go_wp2_with (go_at_call 29; refine HLI.out.mono ?_; rintro _ _ ⟨rfl, rfl⟩)
        go_roundw
        case rel => exact ⟨i + 1, hin, by first | rfl | trivial | simp, by first | rfl | trivial, HT2⟩
        case measure => simp [intOf]; omega
    · have hin2 : i = n := by omega
      subst hin2
      have e2 : longI l = false := by
        have := HT.out
        rwa [List.take_of_length_le (by rw [HN.out]; exact Nat.le_refl _)] at this
      have E2 := hide_ e2
      clear e2
      go_wp2
      go_ret
      exact ⟨⟨_, rfl, by rw [E2.out]; simp⟩, rfl⟩

theorem contains_any (w : World) (B : Nat) (A : Option Addr) (b o n c : Nat) (l : List (List UInt8)) (hn : l.length = n) (hn9 : n ≤ 1000000) (h : LRecs w B A b o l) :
    Calls Try.prog 28 #[.slice A n c, .func (.func 29) #[] #[]] w fun e w' => e = .returned (.bool (longI l)) ∧ w = w' := by
  have HI := hide_ (index_any w B A b o n c l hn hn9 h)
  clear h hn
  go_enter Try.func28, Try.ntmps28
  go_wp2_with (go_at_call 57; refine HI.out.mono ?_; rintro _ _ ⟨⟨x, rfl, hx⟩, rfl⟩)
  refine bodyPost_ret (v := .bool (longI l)) (by simp [results, Try.results28, go_sem]) rfl ?_
  exact ⟨rfl, rfl⟩
end Go.Proofs.Ytecbpmnolgkllaa

/-
  Contract of the journal's Takes.
-/
namespace Go.Proofs.Ytecbpmnolgkllaa
open Go.RowKit

theorem recN_le {g n i : Nat} {r : List UInt8} (h0 : 64 ≤ n) (hg : g ≤ 100000) (hi : i ≤ 100001) (hr : r.length ≤ 2048) : recN g n i r ≤ 2048 := by
  have h1 : recN g n i r * n < (recB g i r).length + 10 + n := secN_lt (by omega)
  have h2 := recB_len (g := g) (i := i) (r := r) (by omega) (by omega) (by omega)
  have h3 : recN g n i r * 64 ≤ recN g n i r * n := Nat.mul_le_mul (Nat.le_refl _) h0
  by_cases hh : recN g n i r ≤ 2048
  · exact hh
  · exfalso
    have h4 : (recN g n i r - 1) * n < (recB g i r).length + 10 := by
      have : (recN g n i r - 1) * n + n = recN g n i r * n := by
        rw [← Nat.succ_mul, Nat.succ_eq_add_one, Nat.sub_add_cancel (by omega)]
      omega
    have h5 : 2048 * 64 ≤ (recN g n i r - 1) * n := Nat.mul_le_mul (by omega) h0
    omega

theorem Takes_long {w : World} {L : Lay} {D : Dk} {jb t g k u : Nat} (h : JBox w L D jb t g k u) (A : Option Addr) (m c : Nat) (hm : 2048 < m) :
    Calls Try.prog 12 #[.pointer (some ⟨jb, 0, none⟩), .slice A m c] w fun e w' => e = .returned (.int .i64 0) ∧ Below w.heap.size w w' := by
  have HA := hide_ (jNone_any h)
  have HL := hide_ (isLong_any m A c w)
  have e1 : decide (2048 < m) = true := by simpa using hm
  rw [e1] at HL
  clear h e1
  go_enter Try.func12, Try.ntmps12
  go_wp2_with (first | (go_at_call 35; refine HA.out.mono ?_; rintro _ _ ⟨rfl, rfl⟩) | (go_at_call 29; refine HL.out.mono ?_; rintro _ _ ⟨rfl, rfl⟩))
  go_ret
  exact ⟨rfl, Below.refl _ _⟩

set_option maxRecDepth 100000 in
theorem Takes_any {w : World} {L : Lay} {D : Dk} {jb t g k u : Nat} (h : JBox w L D jb t g k u) (hg : g ≤ 100000) (hk : k ≤ 100000) (r : List UInt8) (A : Option Addr) (m c : Nat) (hr : r.length = m) (hm : m ≤ 2048) (hs : Sees w w.heap.size A (bv r)) :
    Calls Try.prog 12 #[.pointer (some ⟨jb, 0, none⟩), .slice A m c] w fun e w' => e = .returned (.int .i64 (recN g D.n (k + 1) r : Int)) ∧ Below w.heap.size w w' := by
  have hn1 := h.d.ok.n1
  have hn2 := h.d.ok.n2
  have HA := hide_ (jNone_any h)
  have HL := hide_ (isLong_any m A c w)
  have HN := hide_ (next_any h hg hk r A m c hr hm hs)
  have e1 : decide (2048 < m) = false := by simpa using hm
  have hq : recN g D.n (k + 1) r ≤ 2048 := recN_le hn1 hg (by omega) (by omega)
  rw [e1] at HL
  obtain ⟨q, hqe⟩ : ∃ x, recN g D.n (k + 1) r = x := ⟨_, rfl⟩
  rw [hqe] at HN hq ⊢
  obtain ⟨z, hz⟩ : ∃ x, q * D.n = x := ⟨_, rfl⟩
  have hz9 : z ≤ 2000000 := by
    have := Nat.mul_le_mul hq hn2
    omega
  have HS := hide_ (show ∀ v, Below w.heap.size w v → ∀ b c1, Calls Try.prog 32 #[.pointer (some ⟨jb, 0, none⟩), .slice b z c1] v fun e w' => e = .returned (.int .i64 (q : Int)) ∧ v = w' from fun v hv b c1 => by
    have := sectors_any (h.below hv) z b c1 (by omega)
    rwa [← hz, Nat.mul_div_cancel _ (by omega), hz] at this)
  rw [hz] at HN
  clear h e1 hqe hz hs hr hn1 hn2
  go_enter Try.func12, Try.ntmps12
  go_wp2_with (first | (go_at_call 35; refine HA.out.mono ?_; rintro _ _ ⟨rfl, rfl⟩) | (go_at_call 29; refine HL.out.mono ?_; rintro _ _ ⟨rfl, rfl⟩) | (go_at_call 36; refine HN.out.mono ?_; rintro _ w1 ⟨b1, c1, rfl, hc1, hb1, hr1, hv1⟩; (have HV1 := hide_ hv1); clear hc1 hb1 hr1 hv1) | (go_at_call 32; refine (HS.out _ HV1.out _ _).mono ?_; rintro _ _ ⟨rfl, rfl⟩))
  go_ret
  exact ⟨rfl, HV1.out⟩
end Go.Proofs.Ytecbpmnolgkllaa

/-
  Contracts of the journal's Compact: what is refused; what fits, without the walk.
-/
namespace Go.Proofs.Ytecbpmnolgkllaa
open Go.RowKit

theorem Compact_long {w : World} {L : Lay} {D : Dk} {jb t g k u b o n c : Nat} {A : Option Addr} {l : List (List UInt8)} (h : JBox w L D jb t g k u) (hn : l.length = n) (hn9 : n ≤ 1000000) (hl : LRecs w w.heap.size A b o l) (hlong : longI l = true) :
    Calls Try.prog 10 #[.pointer (some ⟨jb, 0, none⟩), .slice A n c] w fun e w' => e = .returned (.int .i64 4) ∧ Below w.heap.size w w' := by
  have HA := hide_ (jAnswers_any h)
  have HC := hide_ (contains_any w w.heap.size A b o n c l hn hn9 hl)
  rw [hlong] at HC
  clear h hn hn9 hl hlong
  go_enter Try.func10, Try.ntmps10
  go_wp2_with (first | (go_at_call 27; refine HA.out.mono ?_; rintro _ _ ⟨rfl, rfl⟩) | (go_at_call 28; refine HC.out.mono ?_; rintro _ _ ⟨rfl, rfl⟩))
  go_ret
  exact ⟨rfl, Below.refl _ _⟩

theorem usedN_take_le {g n : Nat} (l : List (List UInt8)) (i : Nat) : usedN g n 1 (l.take i) ≤ usedN g n 1 l := by
  have := usedN_app (g := g) (n := n) 1 (l.take i) (l.drop i)
  rw [List.take_append_drop] at this
  omega
theorem usedN_take_succ {g n i : Nat} {l : List (List UInt8)} {r : List UInt8} (h : l[i]? = some r) : usedN g n 1 (l.take (i + 1)) = usedN g n 1 (l.take i) + recN g n (i + 1) r := by
  obtain ⟨h1, rfl⟩ := List.getElem?_eq_some_iff.1 h
  rw [List.take_succ_eq_append_getElem h1, usedN_app, List.length_take, Nat.min_eq_left (by omega), Nat.add_comm 1]
  rfl
theorem framesB_take_succ {g n i : Nat} {l : List (List UInt8)} {r : List UInt8} (h : l[i]? = some r) : framesB g n 1 (l.take (i + 1)) = framesB g n 1 (l.take i) ++ frameB (recB g (i + 1) r) n := by
  obtain ⟨h1, rfl⟩ := List.getElem?_eq_some_iff.1 h
  rw [List.take_succ_eq_append_getElem h1, framesB_app, List.length_take, Nat.min_eq_left (by omega), Nat.add_comm 1]
  simp [framesB]
theorem longI_get {l : List (List UInt8)} {i : Nat} {r : List UInt8} (h : l[i]? = some r) (hl : longI l = false) : r.length ≤ 2048 := by
  unfold longI at hl
  rw [List.any_eq_false] at hl
  have := hl r (List.mem_of_getElem? h)
  simpa using this

/-- what a compaction leaves on the disk -/
theorem Fits13.compact {D : Dk} {S : JS} (h : Fits13 D S) (ho : D.ok) (hm : S.m + 1 ≤ 1000) (hg : S.gen + 1 ≤ 1000) {l : List (List UInt8)} (hl : longI l = false) (hf : usedN (S.gen + 1) D.n 1 l ≤ areaN D.c) :
    Fits13 (keepD D S.m (S.gen + 1) l.length (frontN D.c (S.gen + 1) + 0) (framesB (S.gen + 1) D.n 1 l)) ⟨S.m + 1, S.gen + 1, l⟩ := by
  have hn1 := ho.n1
  have eF := framesB_len (g := S.gen + 1) (n := D.n) (by omega) 1 l
  refine h.next ho (S' := ⟨S.m + 1, S.gen + 1, l⟩) (F := framesB (S.gen + 1) D.n 1 l) (k := 0) rfl ⟨hm, hg⟩ (fun x hx => ?_) eF (by omega) (Nat.zero_add _).symm ?_
  · obtain ⟨i, hi⟩ := List.getElem?_of_mem hx
    exact longI_get hi hl
  · rw [secs_zero]
    rfl

theorem keep_anew {w w' : World} {L : Lay} {D : Dk} {jb : Nat} {S : JS} (ho : D.ok) (hf : Fits13 D S) (hm : S.m + 1 ≤ 1000) (hg : S.gen + 1 ≤ 1000) {l : List (List UInt8)} (hl : longI l = false) (hfit : usedN (S.gen + 1) D.n 1 l ≤ areaN D.c)
    (h : JDoes w L (keepD D S.m (S.gen + 1) l.length (frontN D.c (S.gen + 1) + 0) (framesB (S.gen + 1) D.n 1 l)) jb (2 * S.m + 2) (S.gen + 1) l.length (0 + usedN (S.gen + 1) D.n 1 l) w') :
    JTurn w L D jb ⟨S.m + 1, S.gen + 1, l⟩ w' := by
  refine ⟨keepD D S.m (S.gen + 1) l.length (frontN D.c (S.gen + 1) + 0) (framesB (S.gen + 1) D.n 1 l), rfl, rfl, hf.compact ho hm hg hl hfit, ?_⟩
  rw [Nat.zero_add] at h
  exact h
end Go.Proofs.Ytecbpmnolgkllaa
