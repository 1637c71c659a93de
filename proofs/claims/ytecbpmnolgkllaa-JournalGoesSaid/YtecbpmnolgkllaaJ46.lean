/-
  Texts of this claim put together: Jn14.
-/
import Derived.Test.YtecbpmnolgkllaaJ45
/-
  Contract of the journal's keep.
-/
namespace Go.Proofs.Ytecbpmnolgkllaa
open Go.RowKit

/-- between two seals of keep -/
structure KeepI (w : World) (L : Lay) (jb t g k u g' k' : Nat) (Lx : Lay) (Dx : Dk) (tx : Nat) (wr : World) : Prop where
  b : Lx.b = L.b
  j : JBox wr Lx Dx jb t g k u
  x : BoxAt wr w.heap.size #[.int .u64 (tx : Int), .int .u64 (g' : Int), .int .u64 (k' : Int)] 75
  c : Chg (fun q => L.has q ∨ q = jb) w wr
  hs : ∀ q, Lx.has q → L.has q ∨ w.heap.size < q
  lt : ∀ q, L.has q → q < w.heap.size
  jl : jb < w.heap.size
section
variable {w wr w' : World} {L Lx : Lay} {D Dx D' : Dk} {jb t g k u g' k' tx : Nat}
theorem KeepI.below (h : KeepI w L jb t g k u g' k' Lx Dx tx wr) (hb : Below wr.heap.size wr w') : KeepI w L jb t g k u g' k' Lx Dx tx w' :=
  ⟨h.b, h.j.below hb, h.x.below hb, h.c.trans (Chg.of_below (S := fun q => L.has q ∨ q = jb) hb) (fun _ e _ => e), h.hs, h.lt, h.jl⟩
theorem KeepI.not (h : KeepI w L jb t g k u g' k' Lx Dx tx wr) : ¬ Lx.has w.heap.size := fun e => by
  rcases h.hs _ e with e | e
  · have := h.lt _ e
    omega
  · omega
theorem KeepI.wrote (h : KeepI w L jb t g k u g' k' Lx Dx tx wr) (hd : JDoes wr Lx D' jb t g k u w') : ∃ L2, KeepI w L jb t g k u g' k' L2 D' tx w' := by
  obtain ⟨L2, eb, hj, hc, hs⟩ := hd
  have hx := h.x.lt
  refine ⟨L2, eb.trans h.b, hj, (hc.block _ hx (fun e => ?_)).trans h.x, h.c.trans hc (fun q e hq => ?_), fun q e => ?_, h.lt, h.jl⟩
  · rcases e with e | e
    · exact h.not e
    · have := h.jl
      omega
  · rcases e with e | e
    · rcases h.hs q e with e | e
      · exact .inl e
      · omega
    · exact .inr e
  · rcases hs q e with e | e
    · exact h.hs q e
    · exact .inr (by omega)
theorem KeepI.bump (h : KeepI w L jb t g k u g' k' Lx Dx tx wr) (ty : Nat) : KeepI w L jb t g k u g' k' Lx Dx ty (wr.setCell ⟨w.heap.size, 0, none⟩ (.int .u64 (ty : Int))) := by
  have hg := grown_cell9 wr w.heap.size 0 (.int .u64 (ty : Int))
  have hne : ∀ q, q ≠ w.heap.size → q < wr.heap.size → (wr.setCell ⟨w.heap.size, 0, none⟩ (.int .u64 (ty : Int))).heap[q]? = wr.heap[q]? := fun q hq hl => hg.block q hl (fun e => hq (by cases e; rfl))
  have hjl := h.jl
  refine ⟨h.b, ⟨h.j.d.stay fun q hq => hne q (fun e => h.not (e ▸ hq)) (h.j.d.lt hq), (hne jb (by omega) h.j.x.lt).trans h.j.x, h.j.h⟩, ?_, ⟨hg.os.trans h.c.os, hg.tape.trans h.c.tape, hg.output.trans h.c.output, Nat.le_trans h.c.size hg.size, fun q hq hn => (hne q (by omega) (Nat.lt_of_lt_of_le hq h.c.size)).trans (h.c.block q hq hn)⟩, h.hs, h.lt, h.jl⟩
  have := h.x.set9 0 (.int .u64 (ty : Int))
  simpa using this
theorem KeepI.four {g5 bc : Nat} (h : KeepI w L jb t g k u g' k' Lx Dx tx wr) (hg : w.heap.size = g5) (hb : L.b = bc) : wr.cell? ⟨g5, 0, none⟩ = some (.int .u64 (tx : Int)) ∧ wr.cell? ⟨g5, 1, none⟩ = some (.int .u64 (g' : Int)) ∧ wr.cell? ⟨g5, 2, none⟩ = some (.int .u64 (k' : Int)) ∧ wr.cell? ⟨jb, 0, none⟩ = some (.pointer (some ⟨bc, 0, none⟩)) := by
  have h2 := h.x.cell
  rw [hg] at h2
  have h3 := h.j.cells.1
  rw [h.b, hb] at h3
  exact ⟨h2 0, h2 1, h2 2, h3⟩
end

theorem wrap_i64_13 (a b : Nat) (ha : a ≤ 2047) (hb : b ≤ 2047) : IntKind.i64.wrap ((a : Int) + b) = (a : Int) + b := by rw [IntKind.wrap_i64]; omega

/-- the bytes that keep writes -/
def keepD (D : Dk) (m g' k' a : Nat) (F : List UInt8) : Dk := wroteD (wroteD (wroteD D a F) 1 (frameB (sealB (2 * m + 1) g' k') D.n)) 0 (frameB (sealB (2 * m + 2) g' k') D.n)

set_option maxRecDepth 100000 in
set_option maxHeartbeats 2000000 in
theorem keep_any {w : World} {L : Lay} {D : Dk} {jb t g k u : Nat} (h : JBox w L D jb t g k u) (hc : D.calm) (hw : D.waits = []) (h6 : 6 ≤ D.c) (m g' k' u0 q z b cap : Nat) (A : Option Addr) (F : List UInt8) (hm : m ≤ 1000) (hg' : g' ≤ 100000) (hk' : k' ≤ 100000)
    (hA : 0 < q → A = some ⟨b, 0, none⟩ ∧ RowIs w b F ∧ ¬ L.has b) (hF : F.length = z) (hz : q * D.n = z) (hfit : u0 + q ≤ areaN D.c) (hcap : z ≤ cap) (hb9 : 0 < q → b < w.heap.size) :
    Calls Try.prog 34 #[.pointer (some ⟨jb, 0, none⟩), .agg #[.int .u64 ((2 * m : Nat) : Int), .int .u64 (g' : Int), .int .u64 (k' : Int)], .int .i64 (u0 : Int), .slice A z cap] w fun e w' => e = .returned (.int .i64 0) ∧ JDoes w L (keepD D m g' k' (frontN D.c g' + u0) F) jb (2 * m + 2) g' k' (u0 + q) w' := by
  have hn1 := h.d.ok.n1
  have hn2 := h.d.ok.n2
  have hcc := h.d.ok.c2
  have har : areaN D.c ≤ 2047 := by unfold areaN; omega
  have hfe := front_end (c := D.c) (g := g')
  have hfr : frontN D.c g' ≤ 2049 := by
    unfold frontN
    have : g' % 2 < 2 := Nat.mod_lt _ (by omega)
    have h2 : g' % 2 * areaN D.c ≤ 1 * 2047 := Nat.mul_le_mul (by omega) har
    omega
  obtain ⟨W0, hW0⟩ : ∃ W, w.alloc (.cells #[.int .u64 ((2 * m : Nat) : Int), .int .u64 (g' : Int), .int .u64 (k' : Int)] 75) = W := ⟨_, rfl⟩
  have hb0 : Below w.heap.size w W0 := hW0 ▸ (Below.refl _ _).alloc (Nat.le_refl _) _
  have HI0 := hide_ (show KeepI w L jb t g k u g' k' L D (2 * m) W0 from ⟨rfl, h.below hb0, hW0 ▸ BoxAt.new w _ _, Chg.of_below hb0, fun _ e => .inl e, fun _ e => h.d.lt e, h.x.lt⟩)
  have HFR := hide_ (front_any (h.below hb0) h6 g' hg')
  have HWR := hide_ (write_any (h.below hb0) hc hw (frontN D.c g' + u0) q z b cap A F (fun h0 => ⟨(hA h0).1, (hA h0).2.1.stay12 (hb0.block _ (hb9 h0)), (hA h0).2.2⟩) hF hz (by omega) hcap)
  have one : ∀ x, x ≤ 3000 → (frameB (sealB x g' k') D.n).length = D.n := fun x hx => by
    have := sealB_len (t := x) (g := g') (k := k') (by omega) (by omega) (by omega)
    rw [frameB_len (by omega), secN_one (by omega) (by omega), Nat.one_mul]
  have HPS := hide_ (show ∀ (x : Nat) (v : World), x ≤ 3000 → Calls Try.prog 63 #[.agg #[.int .u64 (x : Int), .int .u64 (g' : Int), .int .u64 (k' : Int)], .int .i64 (D.n : Int)] v fun e w' => ∃ b c, e = .returned (.slice (some ⟨b, 0, none⟩) D.n c) ∧ D.n ≤ c ∧ v.heap.size ≤ b ∧ RowIs w' b (frameB (sealB x g' k') D.n) ∧ Below v.heap.size v w' from fun x v hx => by
    refine (putSeal_any x g' k' D.n v (by omega) (by omega) (by omega) hn1 hn2).mono ?_
    rintro e w' ⟨A1, c1, rfl, hown, hb⟩
    rw [one x hx] at hown ⊢
    obtain ⟨b1, rfl, hb1, hc1, hr⟩ := own_row hown (one x hx) (by omega)
    exact ⟨b1, c1, rfl, hc1, hb1, hr, hb⟩)
  have HON := hide_ one
  have HSE := hide_ (show ∀ (v : World) (Lx : Lay) (Dx : Dk), JBox v Lx Dx jb t g k u → Dx.n = D.n → Calls Try.prog 32 #[.pointer (some ⟨jb, 0, none⟩), .slice A z cap] v fun e w' => e = .returned (.int .i64 (q : Int)) ∧ v = w' from fun v Lx Dx hx hn => by
    have hz9 : z ≤ 2000000000 := by
      have := Nat.mul_le_mul (show q ≤ 2047 by omega) hn2
      omega
    have := sectors_any hx z A cap hz9
    rwa [hn, ← hz, Nat.mul_div_cancel _ (by omega), hz] at this)
  have HOK := hide_ h.d.ok
  obtain ⟨fr, hfr2⟩ : ∃ f, frontN D.c g' = f := ⟨_, rfl⟩
  rw [hfr2] at HFR HWR hfr ⊢
  obtain ⟨t0, ht0⟩ : ∃ x, 2 * m = x := ⟨_, rfl⟩
  have ht9 : t0 ≤ 2000 := by omega
  have hte : t0 % 2 = 0 := by omega
  unfold keepD
  obtain ⟨D1, hD1⟩ : ∃ d, wroteD D (fr + u0) F = d := ⟨_, rfl⟩
  have d1n : D1.n = D.n := by rw [← hD1]; rfl
  have d1c : D1.c = D.c := by rw [← hD1]; rfl
  have d1w : D1.waits = [] := by rw [← hD1]; rfl
  have d1k : D1.calm := by rw [← hD1]; exact wroteD_calm hc _ _
  rw [hD1] at HWR ⊢
  rw [ht0] at HI0 hW0 ⊢
  obtain ⟨D2, hD2⟩ : ∃ d, wroteD D1 1 (frameB (sealB (t0 + 1) g' k') D.n) = d := ⟨_, rfl⟩
  have d2n : D2.n = D.n := by rw [← hD2]; exact d1n
  have d2c : D2.c = D.c := by rw [← hD2]; exact d1c
  have d2w : D2.waits = [] := by rw [← hD2]; rfl
  have d2k : D2.calm := by rw [← hD2]; exact wroteD_calm d1k _ _
  obtain ⟨D3, hD3⟩ : ∃ d, wroteD D2 0 (frameB (sealB (t0 + 2) g' k') D.n) = d := ⟨_, rfl⟩
  have d3n : D3.n = D.n := by rw [← hD3]; exact d2n
  have HD2 := hide_ hD2
  have HD3 := hide_ hD3
  rw [hD2, hD3]
  have DN := hide_ (And.intro d1n (And.intro d2n d3n))
  have DC := hide_ (And.intro d1c d2c)
  have DW := hide_ (And.intro d1w d2w)
  have DK := hide_ (And.intro d1k d2k)
  obtain ⟨n, hn⟩ : ∃ x, D.n = x := ⟨_, rfl⟩
  rw [hn] at HPS HON HSE DN HD2 HD3 hn1 hn2
  obtain ⟨bc, hbc⟩ : ∃ x, L.b = x := ⟨_, rfl⟩
  have HBC := hide_ hbc
  have HW0 := hide_ hW0
  have HC6 := hide_ h6
  obtain ⟨g5, hg5⟩ : ∃ x, w.heap.size = x := ⟨_, rfl⟩
  have HG5 := hide_ hg5
  have x0 := HI0.out.x.cell
  rw [hg5] at x0
  clear hfe h hc hw hA hF hz hb0 one hfr2 ht0 hD1 hD2 hD3 d1n d1c d1w d1k d2n d2c d2w d2k d3n hn hbc hW0 hb9 hg5 h6
  go_enter Try.func34, Try.ntmps34
  go_upto_region 1 with fail
  rw [HW0.out, HG5.out]
  clear HW0
  go_upto_region 4 with (first | (go_at_call 51; refine HFR.out.mono ?_; rintro _ _ ⟨rfl, rfl⟩) | (go_at_call 61; refine HWR.out.mono ?_; rintro _ w1 ⟨rfl, hd1⟩; (obtain ⟨L1, hi1⟩ := HI0.out.wrote hd1); (have HI1 := hide_ hi1); clear hd1 hi1))
  clear x0 HI0 HFR HWR
  go_wp2
  go_loopw [23] (fun i wr => ∃ (Lx : Lay) (Dx : Dk) (tx : Nat), ((i = .int .i64 0 ∧ tx = t0 ∧ Dx = D1) ∨ (i = .int .i64 1 ∧ tx = t0 + 1 ∧ Dx = D2) ∨ (i = .int .i64 2 ∧ tx = t0 + 2 ∧ Dx = D3)) ∧ Hid (KeepI w L jb t g k u g' k' Lx Dx tx wr)) (fun i _ => 2 - (intOf i).toNat)
  case atStart => exact ⟨L1, D1, t0, .inl ⟨rfl, rfl, rfl⟩, HI1⟩
  case round =>
    obtain ⟨Lx, Dx, tx, hcase, HI⟩ := hrel
    rcases hcase with ⟨rfl, htx, hdx⟩ | ⟨rfl, htx, hdx⟩ | ⟨rfl, htx, hdx⟩
    · have hxn : Dx.n = n := by rw [hdx]; exact DN.out.1
      have hxw : Dx.waits = [] := by rw [hdx]; exact DW.out.1
      have hxk : Dx.calm := by rw [hdx]; exact DK.out.1
      have hxc : Dx.c = D.c := by rw [hdx]; exact DC.out.1
      have HNX := hide_ (show wroteD Dx 1 (frameB (sealB (t0 + 1) g' k') n) = D2 from by rw [hdx]; exact HD2.out)
      obtain ⟨tz, htz⟩ : ∃ x, tx = x := ⟨_, rfl⟩
      rw [htz] at HI htx
      obtain ⟨ty, hty⟩ : ∃ x, tz + 1 = x := ⟨_, rfl⟩
      have HB := hide_ (HI.out.bump ty)
      have x0 := HI.out.x.cell 0
      have f0 := HI.out.x.free9 0
      simp only [List.getElem?_toArray, List.getElem?_cons_zero] at x0
      rw [HG5.out] at x0 f0
      have hadd : IntKind.u64.wrap ((tz : Int) + 1) = (ty : Int) := by rw [wrap_u64_13]; omega
      have htp : ty % 2 = 1 := by omega
      have ht3 : ty ≤ 3000 := by omega
      have HTY := hide_ hty
      have HTZ := hide_ htx
      have HTP := hide_ htp
      clear hty htz htp htx hdx
      go_upto_region 7 with fail
      obtain ⟨W2, hW2⟩ : ∃ v, wr.setCell ⟨g5, 0, none⟩ (.int .u64 (ty : Int)) = v := ⟨_, rfl⟩
      rw [HG5.out, hW2] at HB
      rw [hW2]
      obtain ⟨W3, hW3⟩ : ∃ v, W2.drew = v := ⟨_, rfl⟩
      have HB3 := hide_ (HB.out.below (hW3 ▸ (Below.refl _ _).drew : Below W2.heap.size W2 W3))
      have HPL := hide_ (show ∀ v : World, Calls Try.prog 62 #[.agg #[.int .u64 (ty : Int), .int .u64 (g' : Int), .int .u64 (k' : Int)]] v fun e w' => e = .returned (.int .i64 1) ∧ Below v.heap.size v w' from fun v => by
        have := place_any ty g' k' v
        rw [HTP.out] at this
        exact this)
      have fx : ∀ v : World, Below W3.heap.size W3 v → v.cell? ⟨g5, 0, none⟩ = some (.int .u64 (ty : Int)) ∧ v.cell? ⟨g5, 1, none⟩ = some (.int .u64 (g' : Int)) ∧ v.cell? ⟨g5, 2, none⟩ = some (.int .u64 (k' : Int)) ∧ v.cell? ⟨jb, 0, none⟩ = some (.pointer (some ⟨bc, 0, none⟩)) := fun v hv => by
        have h1 := HB3.out.below hv
        have h2 := h1.x.cell
        rw [HG5.out] at h2
        have h3 := h1.j.cells.1
        rw [h1.b, HBC.out] at h3
        exact ⟨h2 0, h2 1, h2 2, h3⟩
      have FX := hide_ fx
      have HSZ := hide_ (show ∀ v, Below W3.heap.size W3 v → Calls Try.prog 31 #[.pointer (some ⟨bc, 0, none⟩)] v fun e w' => e = .returned (.int .i64 (n : Int)) ∧ v = w' from fun v hv => by
        have h1 := HB3.out.below hv
        have := Size_any h1.j.d
        rwa [h1.b, HBC.out, hxn] at this)
      have s0 := fx _ (Below.refl _ _)
      have s0' := s0
      rw [← hW3] at s0'
      have hS0 : W2.cell? ⟨g5, 0, none⟩ = some (.int .u64 (ty : Int)) ∧ W2.cell? ⟨g5, 1, none⟩ = some (.int .u64 (g' : Int)) ∧ W2.cell? ⟨g5, 2, none⟩ = some (.int .u64 (k' : Int)) ∧ W2.cell? ⟨jb, 0, none⟩ = some (.pointer (some ⟨bc, 0, none⟩)) := s0'
      clear hadd x0 f0 s0 s0' fx hW2
      go_region_held (fun v => v.cell? ⟨g5, 0, none⟩ = some (.int .u64 (ty : Int)) ∧ v.cell? ⟨g5, 1, none⟩ = some (.int .u64 (g' : Int)) ∧ v.cell? ⟨g5, 2, none⟩ = some (.int .u64 (k' : Int)) ∧ v.cell? ⟨jb, 0, none⟩ = some (.pointer (some ⟨bc, 0, none⟩)))
        (first | exact hS0 | exact p1 | exact p2 | exact p3)
        (first | (go_simp; go_at_call 62; refine (HPL.out _).mono ?_; rintro _ v1 ⟨rfl, hv1⟩; (have p1 := FX.out _ hv1); (have HV1 := hide_ hv1); clear hv1) | (go_simp; go_at_call 31; refine (HSZ.out _ HV1.out).mono ?_; rintro _ _ ⟨rfl, rfl⟩) | (go_simp; go_at_call 63; refine (HPS.out ty v1 ht3).mono ?_; rintro _ v2 ⟨b2, c2, rfl, hc2, hb2, hr2, hv2⟩; (have HV2 := hide_ (HV1.out.trans (hv2.mono HV1.out.size))); (have p2 := FX.out _ HV2.out); (have HR2 := hide_ hr2); (have HB2 := hide_ (Nat.le_trans HV1.out.size hb2)); clear hr2 hv2 hb2) | (go_simp; go_at_call 61; refine (write_any (HB3.out.below HV2.out).j hxk hxw 1 1 n b2 c2 (some ⟨b2, 0, none⟩) (frameB (sealB ty g' k') n) (fun _ => ⟨rfl, HR2.out, fun e => absurd (HB3.out.j.d.lt e) (by have := HB2.out; omega)⟩) (HON.out ty ht3) (by rw [hxn, Nat.one_mul]) (by have := HC6.out; omega) hc2).mono ?_; rintro _ v3 ⟨rfl, hd3⟩; (obtain ⟨L4, hi4⟩ := (HB3.out.below HV2.out).wrote hd3); (have p3 := KeepI.four hi4 HG5.out HBC.out); (have HI4 := hide_ hi4); clear hd3 hi4))
      go_wp2
      go_roundw
      case rel => exact ⟨L4, _, ty, .inr (.inl ⟨rfl, by have := HTY.out; have := HTZ.out; omega, by rw [show ty = t0 + 1 from by have := HTY.out; have := HTZ.out; omega]; exact HNX.out⟩), HI4⟩
      case measure => simp [intOf]
    · have hxn : Dx.n = n := by rw [hdx]; exact DN.out.2.1
      have hxw : Dx.waits = [] := by rw [hdx]; exact DW.out.2
      have hxk : Dx.calm := by rw [hdx]; exact DK.out.2
      have hxc : Dx.c = D.c := by rw [hdx]; exact DC.out.2
      have HNX := hide_ (show wroteD Dx 0 (frameB (sealB (t0 + 2) g' k') n) = D3 from by rw [hdx]; exact HD3.out)
      obtain ⟨tz, htz⟩ : ∃ x, tx = x := ⟨_, rfl⟩
      rw [htz] at HI htx
      obtain ⟨ty, hty⟩ : ∃ x, tz + 1 = x := ⟨_, rfl⟩
      have HB := hide_ (HI.out.bump ty)
      have x0 := HI.out.x.cell 0
      have f0 := HI.out.x.free9 0
      simp only [List.getElem?_toArray, List.getElem?_cons_zero] at x0
      rw [HG5.out] at x0 f0
      have hadd : IntKind.u64.wrap ((tz : Int) + 1) = (ty : Int) := by rw [wrap_u64_13]; omega
      have htp : ty % 2 = 0 := by omega
      have ht3 : ty ≤ 3000 := by omega
      have HTY := hide_ hty
      have HTZ := hide_ htx
      have HTP := hide_ htp
      clear hty htz htp htx hdx
      go_upto_region 7 with fail
      obtain ⟨W2, hW2⟩ : ∃ v, wr.setCell ⟨g5, 0, none⟩ (.int .u64 (ty : Int)) = v := ⟨_, rfl⟩
      rw [HG5.out, hW2] at HB
      rw [hW2]
      obtain ⟨W3, hW3⟩ : ∃ v, W2.drew = v := ⟨_, rfl⟩
      have HB3 := hide_ (HB.out.below (hW3 ▸ (Below.refl _ _).drew : Below W2.heap.size W2 W3))
      have HPL := hide_ (show ∀ v : World, Calls Try.prog 62 #[.agg #[.int .u64 (ty : Int), .int .u64 (g' : Int), .int .u64 (k' : Int)]] v fun e w' => e = .returned (.int .i64 0) ∧ Below v.heap.size v w' from fun v => by
        have := place_any ty g' k' v
        rw [HTP.out] at this
        exact this)
      have fx : ∀ v : World, Below W3.heap.size W3 v → v.cell? ⟨g5, 0, none⟩ = some (.int .u64 (ty : Int)) ∧ v.cell? ⟨g5, 1, none⟩ = some (.int .u64 (g' : Int)) ∧ v.cell? ⟨g5, 2, none⟩ = some (.int .u64 (k' : Int)) ∧ v.cell? ⟨jb, 0, none⟩ = some (.pointer (some ⟨bc, 0, none⟩)) := fun v hv => by
        have h1 := HB3.out.below hv
        have h2 := h1.x.cell
        rw [HG5.out] at h2
        have h3 := h1.j.cells.1
        rw [h1.b, HBC.out] at h3
        exact ⟨h2 0, h2 1, h2 2, h3⟩
      have FX := hide_ fx
      have HSZ := hide_ (show ∀ v, Below W3.heap.size W3 v → Calls Try.prog 31 #[.pointer (some ⟨bc, 0, none⟩)] v fun e w' => e = .returned (.int .i64 (n : Int)) ∧ v = w' from fun v hv => by
        have h1 := HB3.out.below hv
        have := Size_any h1.j.d
        rwa [h1.b, HBC.out, hxn] at this)
      have s0 := fx _ (Below.refl _ _)
      have s0' := s0
      rw [← hW3] at s0'
      have hS0 : W2.cell? ⟨g5, 0, none⟩ = some (.int .u64 (ty : Int)) ∧ W2.cell? ⟨g5, 1, none⟩ = some (.int .u64 (g' : Int)) ∧ W2.cell? ⟨g5, 2, none⟩ = some (.int .u64 (k' : Int)) ∧ W2.cell? ⟨jb, 0, none⟩ = some (.pointer (some ⟨bc, 0, none⟩)) := s0'
      clear hadd x0 f0 s0 s0' fx hW2
      go_region_held (fun v => v.cell? ⟨g5, 0, none⟩ = some (.int .u64 (ty : Int)) ∧ v.cell? ⟨g5, 1, none⟩ = some (.int .u64 (g' : Int)) ∧ v.cell? ⟨g5, 2, none⟩ = some (.int .u64 (k' : Int)) ∧ v.cell? ⟨jb, 0, none⟩ = some (.pointer (some ⟨bc, 0, none⟩)))
        (first | exact hS0 | exact p1 | exact p2 | exact p3)
        (first | (go_simp; go_at_call 62; refine (HPL.out _).mono ?_; rintro _ v1 ⟨rfl, hv1⟩; (have p1 := FX.out _ hv1); (have HV1 := hide_ hv1); clear hv1) | (go_simp; go_at_call 31; refine (HSZ.out _ HV1.out).mono ?_; rintro _ _ ⟨rfl, rfl⟩) | (go_simp; go_at_call 63; refine (HPS.out ty v1 ht3).mono ?_; rintro _ v2 ⟨b2, c2, rfl, hc2, hb2, hr2, hv2⟩; (have HV2 := hide_ (HV1.out.trans (hv2.mono HV1.out.size))); (have p2 := FX.out _ HV2.out); (have HR2 := hide_ hr2); (have HB2 := hide_ (Nat.le_trans HV1.out.size hb2)); clear hr2 hv2 hb2) | (go_simp; go_at_call 61; refine (write_any (HB3.out.below HV2.out).j hxk hxw 0 1 n b2 c2 (some ⟨b2, 0, none⟩) (frameB (sealB ty g' k') n) (fun _ => ⟨rfl, HR2.out, fun e => absurd (HB3.out.j.d.lt e) (by have := HB2.out; omega)⟩) (HON.out ty ht3) (by rw [hxn, Nat.one_mul]) (by have := HC6.out; omega) hc2).mono ?_; rintro _ v3 ⟨rfl, hd3⟩; (obtain ⟨L4, hi4⟩ := (HB3.out.below HV2.out).wrote hd3); (have p3 := KeepI.four hi4 HG5.out HBC.out); (have HI4 := hide_ hi4); clear hd3 hi4))
      go_wp2
      go_roundw
      case rel => exact ⟨L4, _, ty, .inr (.inr ⟨rfl, by have := HTY.out; have := HTZ.out; omega, by rw [show ty = t0 + 2 from by have := HTY.out; have := HTZ.out; omega]; exact HNX.out⟩), HI4⟩
      case measure => simp [intOf]
    · obtain ⟨t2, ht2⟩ : ∃ x, t0 + 2 = x := ⟨_, rfl⟩
      rw [ht2] at htx
      have HT2 := hide_ ht2
      rw [htx, hdx] at HI
      have HSE1 := hide_ (show ∀ v, Below wr.heap.size wr v → Calls Try.prog 32 #[.pointer (some ⟨jb, 0, none⟩), .slice A z cap] v fun e w' => e = .returned (.int .i64 (q : Int)) ∧ w' = v from fun v hv => (HSE.out v Lx D3 (HI.out.below hv).j DN.out.2.2).mono fun e w' h => ⟨h.1, h.2.symm⟩)
      have x0 := HI.out.x.cell
      rw [HG5.out] at x0
      have hq9 : q ≤ 2047 := by omega
      have hu9 : u0 ≤ 2047 := by omega
      have f9 := HI.out.j.x.free9
      obtain ⟨e0, e1, e2, e3, e4, e5⟩ := HI.out.j.cells
      clear hdx htx ht2
      go_wp2
      obtain ⟨W3, hW3⟩ : ∃ v, wr.drew = v := ⟨_, rfl⟩
      have hb3 : Below wr.heap.size wr W3 := hW3 ▸ (Below.refl _ _).drew
      have HI3 := hide_ (HI.out.below hb3)
      have HQ3 := hide_ (HSE1.out W3 hb3)
      have x3 := HI3.out.x.cell
      rw [HG5.out] at x3
      have f3 := HI3.out.j.x.free9
      obtain ⟨d0, d1, d2, d3, d4, d5⟩ := HI3.out.j.cells
      have hwr := wrap_i64_13 u0 q hu9 hq9
      have hne5 : jb ≠ g5 := fun e => by
        have := HI3.out.jl
        rw [HG5.out] at this
        omega
      have K1 : ∀ (v : World) (o : Nat) (x : Value), (v.cell? ⟨g5, 0, none⟩ = some (.int .u64 (t2 : Int)) ∧ v.cell? ⟨g5, 1, none⟩ = some (.int .u64 (g' : Int)) ∧ v.cell? ⟨g5, 2, none⟩ = some (.int .u64 (k' : Int))) → ((v.setCell ⟨jb, o, none⟩ x).cell? ⟨g5, 0, none⟩ = some (.int .u64 (t2 : Int)) ∧ (v.setCell ⟨jb, o, none⟩ x).cell? ⟨g5, 1, none⟩ = some (.int .u64 (g' : Int)) ∧ (v.setCell ⟨jb, o, none⟩ x).cell? ⟨g5, 2, none⟩ = some (.int .u64 (k' : Int))) := fun v o x h => by
        refine ⟨?_, ?_, ?_⟩ <;> rw [World.cell?_setCell_far _ _ _ _ (by exact hne5)]
        · exact h.1
        · exact h.2.1
        · exact h.2.2
      have K3 : ∀ (v : World) (o o1 o2 : Nat) (x x1 x2 : Value), (v.cell? ⟨g5, 0, none⟩ = some (.int .u64 (t2 : Int)) ∧ v.cell? ⟨g5, 1, none⟩ = some (.int .u64 (g' : Int)) ∧ v.cell? ⟨g5, 2, none⟩ = some (.int .u64 (k' : Int))) → ((((v.setCell ⟨jb, o, none⟩ x).setCell ⟨jb, o1, none⟩ x1).setCell ⟨jb, o2, none⟩ x2).cell? ⟨g5, 0, none⟩ = some (.int .u64 (t2 : Int)) ∧ (((v.setCell ⟨jb, o, none⟩ x).setCell ⟨jb, o1, none⟩ x1).setCell ⟨jb, o2, none⟩ x2).cell? ⟨g5, 1, none⟩ = some (.int .u64 (g' : Int)) ∧ (((v.setCell ⟨jb, o, none⟩ x).setCell ⟨jb, o1, none⟩ x1).setCell ⟨jb, o2, none⟩ x2).cell? ⟨g5, 2, none⟩ = some (.int .u64 (k' : Int))) := fun v o o1 o2 x x1 x2 h => K1 _ _ _ (K1 _ _ _ (K1 _ _ _ h))
      clear HSE1 HSE hb3
      go_region_held (fun v => v.cell? ⟨g5, 0, none⟩ = some (.int .u64 (t2 : Int)) ∧ v.cell? ⟨g5, 1, none⟩ = some (.int .u64 (g' : Int)) ∧ v.cell? ⟨g5, 2, none⟩ = some (.int .u64 (k' : Int)))
        (first | exact ⟨x3 0, x3 1, x3 2⟩ | exact K3 _ _ _ _ _ _ _ (by first | assumption | exact ⟨by assumption, by assumption, by assumption⟩) | exact K1 _ _ _ (by first | assumption | exact ⟨by assumption, by assumption, by assumption⟩) | go_keep)
        ((go_simp; go_at_call 32; refine HQ3.out.mono ?_; rintro _ _ ⟨rfl, rfl⟩))
      go_wp2
      go_ret
      have hs := HI3.out.j.seal t2 g' k' (u0 + q)
      simp only [Int.natCast_add] at hs
      rw [HT2.out]
      exact ⟨rfl, Lx, HI3.out.b, hs.1, HI3.out.c.trans (Chg.of_grown (S := fun q => L.has q ∨ q = jb) hs.2 (.inl (.inr rfl))) (fun _ e _ => e), fun q hq => (HI3.out.hs q hq).imp_right Nat.le_of_lt⟩
end Go.Proofs.Ytecbpmnolgkllaa
