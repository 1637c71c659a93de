/-
  Texts of this claim put together: Jn15.
-/
import Derived.Test.YtecbpmnolgkllaaJ46
/-
  Contracts of the journal's next and Append.
-/
namespace Go.Proofs.Ytecbpmnolgkllaa
open Go.RowKit

section
variable {w w' : World} {L : Lay} {D D' : Dk} {jb t g k u : Nat}
set_option maxRecDepth 100000 in
theorem next_any (h : JBox w L D jb t g k u) (hg : g ≤ 100000) (hk : k ≤ 100000) (r : List UInt8) (A : Option Addr) (m c : Nat) (hr : r.length = m) (hm : m ≤ 2048) (hs : Sees w w.heap.size A (bv r)) :
    Calls Try.prog 36 #[.pointer (some ⟨jb, 0, none⟩), .slice A m c] w fun e w' => ∃ b c1, e = .returned (.slice (some ⟨b, 0, none⟩) (recN g D.n (k + 1) r * D.n) c1) ∧ recN g D.n (k + 1) r * D.n ≤ c1 ∧ w.heap.size ≤ b ∧ RowIs w' b (frameB (recB g (k + 1) r) D.n) ∧ Below w.heap.size w w' := by
  obtain ⟨c0, _, c2, c3, _, _⟩ := h.cells
  have hn1 := h.d.ok.n1
  have hn2 := h.d.ok.n2
  have f9 := h.x.free9
  have e1 : (frameB (recB g (k + 1) r) D.n).length = recN g D.n (k + 1) r * D.n := frameB_len (by omega)
  have e2 : 0 < recN g D.n (k + 1) r * D.n := Nat.mul_pos (recN_pos (by omega) r) (by omega)
  obtain ⟨z, hz⟩ : ∃ z, recN g D.n (k + 1) r * D.n = z := ⟨_, rfl⟩
  have HP := hide_ (show ∀ v, Below w.heap.size w v → Calls Try.prog 30 #[.int .u64 (g : Int), .int .u64 ((k + 1 : Nat) : Int), .slice A m c, .int .i64 (D.n : Int)] v fun e w' => ∃ b c1, e = .returned (.slice (some ⟨b, 0, none⟩) z c1) ∧ z ≤ c1 ∧ w.heap.size ≤ b ∧ RowIs w' b (frameB (recB g (k + 1) r) D.n) ∧ Below w.heap.size w w' from fun v hv => by
    refine (putRecord_any g (k + 1) r w.heap.size A m c D.n v (by omega) (by omega) hr (by omega) hn1 hn2 (hs.below hv) hv.size).mono ?_
    rintro e w' ⟨A1, c1, rfl, hown, hb⟩
    rw [e1, hz] at hown
    obtain ⟨b1, rfl, hb1, hc1, hr1⟩ := own_row hown (e1.trans hz) (by omega)
    rw [e1, hz]
    exact ⟨b1, c1, rfl, hc1, Nat.le_trans hv.size hb1, hr1, hv.trans (hb.mono hv.size)⟩)
  have HZ := hide_ (show ∀ v, Below w.heap.size w v → Calls Try.prog 31 #[.pointer (some ⟨L.b, 0, none⟩)] v fun e w' => e = .returned (.int .i64 (D.n : Int)) ∧ v = w' from fun v hv => Size_any (h.below hv).d)
  rw [hz]
  obtain ⟨k1, hk1⟩ : ∃ x, k + 1 = x := ⟨_, rfl⟩
  have hw1 : IntKind.u64.wrap ((k : Int) + 1) = (k1 : Int) := by rw [wrap_u64_13]; omega
  have HX := hide_ (show ∀ v, Below w.heap.size w v → v.cell? ⟨jb, 0, none⟩ = some (.pointer (some ⟨L.b, 0, none⟩)) ∧ v.cell? ⟨jb, 2, none⟩ = some (.int .u64 (g : Int)) ∧ v.cell? ⟨jb, 3, none⟩ = some (.int .u64 (k : Int)) from fun v hv => by
    obtain ⟨c0, _, c2, c3, _, _⟩ := (h.below hv).cells
    exact ⟨c0, c2, c3⟩)
  rw [hk1] at HP ⊢
  obtain ⟨lb, hlb⟩ : ∃ x, L.b = x := ⟨_, rfl⟩
  obtain ⟨n, hn⟩ : ∃ x, D.n = x := ⟨_, rfl⟩
  rw [hlb] at HX HZ c0
  rw [hn] at HP HZ ⊢
  clear h hr hs e1 e2 hz hk1 hlb hn hn1 hn2
  go_enter Try.func36, Try.ntmps36
  go_upto_region 1 with fail
  obtain ⟨W3, hW3⟩ : ∃ v, w.drew = v := ⟨_, rfl⟩
  have HV := hide_ (hW3 ▸ (Below.refl _ _).drew : Below w.heap.size w W3)
  have s0 := HX.out W3 HV.out
  have s0' : w.cell? ⟨jb, 0, none⟩ = some (.pointer (some ⟨lb, 0, none⟩)) ∧ w.cell? ⟨jb, 2, none⟩ = some (.int .u64 (g : Int)) ∧ w.cell? ⟨jb, 3, none⟩ = some (.int .u64 (k : Int)) := ⟨c0, c2, c3⟩
  clear c0 c2 c3
  go_region_held (fun v => v.cell? ⟨jb, 0, none⟩ = some (.pointer (some ⟨lb, 0, none⟩)) ∧ v.cell? ⟨jb, 2, none⟩ = some (.int .u64 (g : Int)) ∧ v.cell? ⟨jb, 3, none⟩ = some (.int .u64 (k : Int)))
    (first | exact s0' | exact s0 | exact p2)
    (first | (go_simp; go_at_call 31; refine (HZ.out _ HV.out).mono ?_; rintro _ _ ⟨rfl, rfl⟩) | (go_simp; go_at_call 30; refine (HP.out _ HV.out).mono ?_; rintro _ v2 ⟨b2, c2, rfl, hc2, hb2, hr2, hv2⟩; (have p2 := HX.out _ hv2); (have HV2 := hide_ hv2); (have HR2 := hide_ hr2); (have HC2 := hide_ hc2); (have HB2 := hide_ hb2); clear hv2 hr2 hc2 hb2))
  go_wp2
  go_ret
  exact ⟨b2, c2, rfl, HC2.out, HB2.out, HR2.out, HV2.out⟩
/-- what an append leaves -/
def JTurn (w : World) (L : Lay) (D : Dk) (jb : Nat) (S' : JS) (w' : World) : Prop :=
  ∃ D', D'.n = D.n ∧ D'.c = D.c ∧ Fits13 D' S' ∧ JDoes w L D' jb (2 * S'.m) S'.gen S'.recs.length (S'.used D.n) w'

/-- the place of the next record's frame -/
theorem Fits13.append {D : Dk} {S : JS} (h : Fits13 D S) (ho : D.ok) (hm : S.m + 1 ≤ 1000) {r : List UInt8} (hr : r.length ≤ 2048) (hf : S.used D.n + recN S.gen D.n (S.recs.length + 1) r ≤ areaN D.c) :
    Fits13 (keepD D S.m S.gen (S.recs.length + 1) (frontN D.c S.gen + S.used D.n) (frameB (recB S.gen (S.recs.length + 1) r) D.n)) ⟨S.m + 1, S.gen, S.recs ++ [r]⟩ ∧
    (JS.mk (S.m + 1) S.gen (S.recs ++ [r])).used D.n = S.used D.n + recN S.gen D.n (S.recs.length + 1) r := by
  have hn1 := ho.n1
  have eu : (JS.mk (S.m + 1) S.gen (S.recs ++ [r])).used D.n = S.used D.n + recN S.gen D.n (S.recs.length + 1) r := by
    show usedN S.gen D.n 1 (S.recs ++ [r]) = usedN S.gen D.n 1 S.recs + _
    rw [usedN_app, Nat.add_comm 1]
    rfl
  have eF : (frameB (recB S.gen (S.recs.length + 1) r) D.n).length = recN S.gen D.n (S.recs.length + 1) r * D.n := frameB_len (by omega)
  refine ⟨?_, eu⟩
  have := h.next ho (S' := ⟨S.m + 1, S.gen, S.recs ++ [r]⟩) (F := frameB (recB S.gen (S.recs.length + 1) r) D.n) (k := S.used D.n) rfl ⟨hm, h.small.2⟩ (fun x hx => ?_) eF hf eu ?_
  · have el : (S.recs ++ [r]).length = S.recs.length + 1 := by simp
    simp only [el] at this
    exact this
  · rcases List.mem_append.1 hx with hx | hx
    · exact h.recs x hx
    · rw [List.mem_singleton.1 hx]
      exact hr
  · rw [h.area]
    show _ = framesB S.gen D.n 1 (S.recs ++ [r])
    rw [framesB_app, Nat.add_comm 1]
    simp [framesB]

theorem keep_turn {w : World} {L : Lay} {D : Dk} {jb : Nat} {S : JS} (ho : D.ok) (hf : Fits13 D S) (hm : S.m + 1 ≤ 1000) {r : List UInt8} (hr : r.length ≤ 2048) (hfit : S.used D.n + recN S.gen D.n (S.recs.length + 1) r ≤ areaN D.c)
    (h : JDoes w L (keepD D S.m S.gen (S.recs.length + 1) (frontN D.c S.gen + S.used D.n) (frameB (recB S.gen (S.recs.length + 1) r) D.n)) jb (2 * S.m + 2) S.gen (S.recs.length + 1) (S.used D.n + recN S.gen D.n (S.recs.length + 1) r) w') :
    JTurn w L D jb ⟨S.m + 1, S.gen, S.recs ++ [r]⟩ w' := by
  obtain ⟨h1, h2⟩ := hf.append ho hm hr hfit
  refine ⟨keepD D S.m S.gen (S.recs.length + 1) (frontN D.c S.gen + S.used D.n) (frameB (recB S.gen (S.recs.length + 1) r) D.n), rfl, rfl, h1, ?_⟩
  rw [h2, show (JS.mk (S.m + 1) S.gen (S.recs ++ [r])).recs.length = S.recs.length + 1 from by simp]
  exact h

/-- a drawn allocation of three cells aside -/
theorem JBox.side {w : World} {L : Lay} {D : Dk} {jb t g k u : Nat} (h : JBox w L D jb t g k u) {v : World} (hb : Below w.heap.size w v) : JBox v L D jb t g k u := h.below hb

theorem Append_long {w : World} {L : Lay} {D : Dk} {jb t g k u : Nat} (h : JBox w L D jb t g k u) (A : Option Addr) (m c : Nat) (hm : 2048 < m) :
    Calls Try.prog 13 #[.pointer (some ⟨jb, 0, none⟩), .slice A m c] w fun e w' => e = .returned (.int .i64 4) ∧ Below w.heap.size w w' := by
  have HA := hide_ (jAnswers_any h)
  have HL := hide_ (isLong_any m A c w)
  have e1 : decide (2048 < m) = true := by simpa using hm
  rw [e1] at HL
  clear h e1
  go_enter Try.func13, Try.ntmps13
  go_wp2_with (first | (go_at_call 27; refine HA.out.mono ?_; rintro _ _ ⟨rfl, rfl⟩) | (go_at_call 29; refine HL.out.mono ?_; rintro _ _ ⟨rfl, rfl⟩))
  go_ret
  exact ⟨rfl, Below.refl _ _⟩

set_option maxRecDepth 100000 in
theorem Append_full {w : World} {L : Lay} {D : Dk} {jb t g k u : Nat} (h : JBox w L D jb t g k u) (h6 : 6 ≤ D.c) (hu : u ≤ areaN D.c) (hg : g ≤ 100000) (hk : k ≤ 100000) (r : List UInt8) (A : Option Addr) (m c : Nat) (hr : r.length = m) (hm : m ≤ 2048) (hs : Sees w w.heap.size A (bv r)) (hfull : areaN D.c < u + recN g D.n (k + 1) r) :
    Calls Try.prog 13 #[.pointer (some ⟨jb, 0, none⟩), .slice A m c] w fun e w' => e = .returned (.int .i64 7) ∧ Below w.heap.size w w' := by
  have hn1 := h.d.ok.n1
  have hn2 := h.d.ok.n2
  have HA := hide_ (jAnswers_any h)
  have HL := hide_ (isLong_any m A c w)
  have HN := hide_ (next_any h hg hk r A m c hr hm hs)
  have e1 : decide (2048 < m) = false := by simpa using hm
  have hq : recN g D.n (k + 1) r ≤ 2048 := by
    have h1 : recN g D.n (k + 1) r * D.n < (recB g (k + 1) r).length + 10 + D.n := secN_lt (by omega)
    have h2 := recB_len (g := g) (i := k + 1) (r := r) (by omega) (by omega) (by omega)
    have h3 : recN g D.n (k + 1) r * 64 ≤ recN g D.n (k + 1) r * D.n := Nat.mul_le_mul (Nat.le_refl _) hn1
    omega
  rw [e1] at HL
  obtain ⟨q, hqe⟩ : ∃ x, recN g D.n (k + 1) r = x := ⟨_, rfl⟩
  rw [hqe] at HN hq hfull
  obtain ⟨z, hz⟩ : ∃ x, q * D.n = x := ⟨_, rfl⟩
  have hz9 : z ≤ 2000000 := by
    have := Nat.mul_le_mul hq hn2
    omega
  have HS := hide_ (show ∀ v, Below w.heap.size w v → ∀ b c1, Calls Try.prog 32 #[.pointer (some ⟨jb, 0, none⟩), .slice b z c1] v fun e w' => e = .returned (.int .i64 (q : Int)) ∧ v = w' from fun v hv b c1 => by
    have := sectors_any (h.below hv) z b c1 (by omega)
    rwa [← hz, Nat.mul_div_cancel _ (by omega), hz] at this)
  have HR := hide_ (show ∀ v, Below w.heap.size w v → Calls Try.prog 11 #[.pointer (some ⟨jb, 0, none⟩)] v fun e w' => e = .returned (.int .i64 ((areaN D.c - u : Nat) : Int)) ∧ Below w.heap.size w w' from fun v hv => (Room_any (h.below hv) h6 hu).mono fun e w' hh => ⟨hh.1, hv.trans (hh.2.mono hv.size)⟩)
  obtain ⟨ro, hro⟩ : ∃ x, areaN D.c - u = x := ⟨_, rfl⟩
  have hlt : ro < q := by omega
  rw [hro] at HR
  rw [hz] at HN
  clear h e1 hqe hz hro hs hr hn1 hn2
  go_enter Try.func13, Try.ntmps13
  go_wp2_with (first | (go_at_call 27; refine HA.out.mono ?_; rintro _ _ ⟨rfl, rfl⟩) | (go_at_call 29; refine HL.out.mono ?_; rintro _ _ ⟨rfl, rfl⟩) | (go_at_call 36; refine HN.out.mono ?_; rintro _ w1 ⟨b1, c1, rfl, hc1, hb1, hr1, hv1⟩; (have HV1 := hide_ hv1); clear hc1 hb1 hr1 hv1) | (go_at_call 32; refine (HS.out _ HV1.out _ _).mono ?_; rintro _ _ ⟨rfl, rfl⟩) | (go_at_call 11; refine (HR.out _ HV1.out).mono ?_; rintro _ w2 ⟨rfl, hv2⟩; (have HV2 := hide_ hv2); clear hv2))
  go_ret
  exact ⟨rfl, HV2.out⟩

set_option maxRecDepth 100000 in
theorem Append_fits {w : World} {L : Lay} {D : Dk} {jb u : Nat} {S : JS} (h : JBox w L D jb (2 * S.m) S.gen S.recs.length u) (hf : Fits13 D S) (hu : S.used D.n = u) (hm1 : S.m + 1 ≤ 1000) (r : List UInt8) (A : Option Addr) (m c : Nat) (hr : r.length = m) (hm : m ≤ 2048) (hs : Sees w w.heap.size A (bv r)) (hfit : u + recN S.gen D.n (S.recs.length + 1) r ≤ areaN D.c) :
    Calls Try.prog 13 #[.pointer (some ⟨jb, 0, none⟩), .slice A m c] w fun e w' => e = .returned (.int .i64 0) ∧ JTurn w L D jb ⟨S.m + 1, S.gen, S.recs ++ [r]⟩ w' := by
  have hn1 := h.d.ok.n1
  have hn2 := h.d.ok.n2
  have hcc := h.d.ok.c2
  have hmany := hf.many (by omega) hcc
  have hg : S.gen ≤ 100000 := by have := hf.small; omega
  have har : areaN D.c ≤ 2047 := by unfold areaN; omega
  have HA := hide_ (jAnswers_any h)
  have HL := hide_ (isLong_any m A c w)
  have HN := hide_ (next_any h hg (by omega) r A m c hr hm hs)
  have e1 : decide (2048 < m) = false := by simpa using hm
  rw [e1] at HL
  have HT := hide_ (fun w' => keep_turn (w := w) (w' := w') (L := L) (jb := jb) h.d.ok hf hm1 (r := r) (by omega) (by rw [hu]; exact hfit))
  have eF : (frameB (recB S.gen (S.recs.length + 1) r) D.n).length = recN S.gen D.n (S.recs.length + 1) r * D.n := frameB_len (by omega)
  obtain ⟨F, hF⟩ : ∃ x, frameB (recB S.gen (S.recs.length + 1) r) D.n = x := ⟨_, rfl⟩
  rw [hF] at HN HT eF
  obtain ⟨q, hqe⟩ : ∃ x, recN S.gen D.n (S.recs.length + 1) r = x := ⟨_, rfl⟩
  rw [hqe] at HN HT hfit eF
  obtain ⟨z, hz⟩ : ∃ x, q * D.n = x := ⟨_, rfl⟩
  have hz9 : z ≤ 2000000 := by
    have := Nat.mul_le_mul (show q ≤ 2047 by omega) hn2
    omega
  have HS := hide_ (show ∀ v, Below w.heap.size w v → ∀ b c1, Calls Try.prog 32 #[.pointer (some ⟨jb, 0, none⟩), .slice b z c1] v fun e w' => e = .returned (.int .i64 (q : Int)) ∧ v = w' from fun v hv b c1 => by
    have := sectors_any (h.below hv) z b c1 (by omega)
    rwa [← hz, Nat.mul_div_cancel _ (by omega), hz] at this)
  have HR := hide_ (show ∀ v, Below w.heap.size w v → Calls Try.prog 11 #[.pointer (some ⟨jb, 0, none⟩)] v fun e w' => e = .returned (.int .i64 ((areaN D.c - u : Nat) : Int)) ∧ Below v.heap.size v w' from fun v hv => (Room_any (h.below hv) hf.c6 (by omega)))
  obtain ⟨ro, hro⟩ : ∃ x, areaN D.c - u = x := ⟨_, rfl⟩
  have hlt : q ≤ ro := by omega
  rw [hro] at HR
  rw [hz] at HN eF
  have HK := hide_ (show ∀ (v : World) (b c1 : Nat), Below w.heap.size w v → w.heap.size ≤ b → RowIs v b F → z ≤ c1 → Calls Try.prog 34 #[.pointer (some ⟨jb, 0, none⟩), .agg #[.int .u64 ((2 * S.m : Nat) : Int), .int .u64 (S.gen : Int), .int .u64 ((S.recs.length + 1 : Nat) : Int)], .int .i64 (u : Int), .slice (some ⟨b, 0, none⟩) z c1] v fun e w' => e = .returned (.int .i64 0) ∧ JTurn w L D jb ⟨S.m + 1, S.gen, S.recs ++ [r]⟩ w' from fun v b c1 hv hb hrw hc1 => by
    refine (keep_any (h.below hv) hf.calm hf.w hf.c6 S.m S.gen (S.recs.length + 1) u q z b c1 (some ⟨b, 0, none⟩) F (by omega) hg (by omega) (fun _ => ⟨rfl, hrw, fun e => absurd (h.d.lt e) (by omega)⟩) eF hz hfit hc1 (fun _ => hrw.lt)).mono ?_
    rintro e w' ⟨rfl, hd⟩
    refine ⟨rfl, HT.out w' ?_⟩
    rw [hu]
    exact JDoes.trans rfl (Chg.of_below hv) (fun q e => .inl e) hd)
  have HC := hide_ (fun v (hv : Below w.heap.size w v) => (h.below hv).cells)
  have HFR := hide_ (fun v (hv : Below w.heap.size w v) => (h.below hv).x.free9)
  have HJL := hide_ h.x.lt
  obtain ⟨t0, ht0⟩ : ∃ x, 2 * S.m = x := ⟨_, rfl⟩
  obtain ⟨k1, hk1⟩ : ∃ x, S.recs.length + 1 = x := ⟨_, rfl⟩
  have hw1 : IntKind.u64.wrap ((S.recs.length : Int) + 1) = (k1 : Int) := by rw [wrap_u64_13]; omega
  rw [ht0, hk1] at HK
  rw [ht0] at HC
  obtain ⟨k, hk⟩ : ∃ x, S.recs.length = x := ⟨_, rfl⟩
  rw [hk] at HC hw1
  clear h e1 hqe hz hro hs hr hn1 hn2 hf HT hF hk1 hk ht0 hfit eF hcc hmany hu
  go_enter Try.func13, Try.ntmps13
  go_upto_region 9 with (first | (go_at_call 27; refine HA.out.mono ?_; rintro _ _ ⟨rfl, rfl⟩) | (go_at_call 29; refine HL.out.mono ?_; rintro _ _ ⟨rfl, rfl⟩) | (go_at_call 36; refine HN.out.mono ?_; rintro _ w1 ⟨b1, c1, rfl, hc1, hb1, hr1, hv1⟩; (have HV1 := hide_ hv1); (have HB1 := hide_ hb1); (have HC1 := hide_ hc1); (have HR1 := hide_ hr1); clear hc1 hb1 hr1 hv1) | (go_at_call 32; refine (HS.out _ HV1.out _ _).mono ?_; rintro _ _ ⟨rfl, rfl⟩) | (go_at_call 11; refine (HR.out _ HV1.out).mono ?_; rintro _ w2 ⟨rfl, hv2⟩; (have HR2 := hide_ (HR1.out.stay12 (hv2.block _ HR1.out.lt))); (have HV2 := hide_ (HV1.out.trans (hv2.mono HV1.out.size))); clear hv2))
  obtain ⟨c0, c1', c2, c3, c4, _⟩ := HC.out w2 HV2.out
  have f9 := HFR.out w2 HV2.out
  go_upto_region 11 with fail
  obtain ⟨W3, hW3⟩ : ∃ v, w2.alloc (.cells #[.int .u64 (t0 : Int), .int .u64 (S.gen : Int), .int .u64 (k1 : Int)] 75) = v := ⟨_, rfl⟩
  rw [hW3]
  have hb3 : Below w2.heap.size w2 W3 := hW3 ▸ (Below.refl _ _).alloc (Nat.le_refl _) _
  have x3 : BoxAt W3 w2.heap.size #[.int .u64 (t0 : Int), .int .u64 (S.gen : Int), .int .u64 (k1 : Int)] 75 := hW3 ▸ BoxAt.new w2 _ _
  have y0 := x3.cell 0
  have y1 := x3.cell 1
  have y2 := x3.cell 2
  simp only [List.getElem?_toArray, List.getElem?_cons_zero, List.getElem?_cons_succ] at y0 y1 y2
  clear c0 c1' c2 c3 c4 f9 hW3
  have HV3 := hide_ (HV2.out.trans (hb3.mono HV2.out.size))
  have HR3 := hide_ (HR2.out.stay12 (hb3.block _ HR2.out.lt))
  obtain ⟨_, _, _, _, c4, _⟩ := HC.out W3 HV3.out
  clear hb3 x3
  obtain ⟨s3, hs3⟩ : ∃ x, w2.heap.size = x := ⟨_, rfl⟩
  rw [hs3] at y0 y1 y2 ⊢
  clear hs3
  refine wp_region_still_tail 7 (by kernel_rfl) (by kernel_rfl) ?_
  simp only [List.take_succ_cons, List.take_zero, List.drop_succ_cons, List.drop_zero]
  repeat still_step
  refine wpStill_nil ?_
  go_wp2_with (go_at_call 34; refine (HK.out _ _ _ HV3.out.drew HB1.out (HR3.out.stay12 rfl) HC1.out).mono ?_; rintro _ w4 ⟨rfl, hj4⟩; (have HJ4 := hide_ hj4); clear hj4)
  go_ret
  exact ⟨rfl, HJ4.out⟩
end
end Go.Proofs.Ytecbpmnolgkllaa
