/-
  Texts of this claim put together: Jn12, Jn13.
-/
import Derived.Test.YtecbpmnolgkllaaJ44
import Derived.StillTailTactics
import Derived.Deep.RegionHeld
/-
  Contract of the journal's Open.
-/
namespace Go.Proofs.Ytecbpmnolgkllaa
open Go.RowKit

/-- a journal in memory, and what its disk has of it -/
structure JAt (w : World) (L : Lay) (D : Dk) (jb : Nat) (S : JS) : Prop where
  b : JBox w L D jb (2 * S.m) S.gen S.recs.length (S.used D.n)
  f : Fits13 D S
theorem JAt.below {w w' : World} {L : Lay} {D : Dk} {jb : Nat} {S : JS} (h : JAt w L D jb S) (hb : Below w.heap.size w w') : JAt w' L D jb S := ⟨h.b.below hb, h.f⟩

/-- what Open leaves -/
def Opened (w : World) (L : Lay) (D : Dk) (S : JS) (e : Ending) (w' : World) : Prop :=
  ∃ jb A c vs, e = .returned (.tuple #[.pointer (some ⟨jb, 0, none⟩), .slice A S.recs.length c, .int .i64 0]) ∧ w.heap.size ≤ jb ∧ JAt w' L D jb S ∧ w'.ownsRow w.heap.size 38 1 (.slice A S.recs.length c) S.recs.length vs ∧ RowsOf w' S.recs vs ∧ Below w.heap.size w w'

theorem seal_any {w : World} {L : Lay} {D : Dk} {S : JS} (h : DiskAt w L D) (f : Fits13 D S) : Calls Try.prog 25 #[.pointer (some ⟨L.b, 0, none⟩)] w fun e w' => e = .returned (.tuple #[.agg #[.int .u64 ((2 * S.m : Nat) : Int), .int .u64 (S.gen : Int), .int .u64 (S.recs.length : Int)], .int .i64 0]) ∧ Below w.heap.size w w' := by
  have hc2 := h.ok.c2
  have hm := f.many (by have := h.ok.n1; omega) hc2
  have hs := f.small
  have h6 := f.c6
  rcases f.seals with ⟨e1, e2, e3, e4, e5⟩ | ⟨e1, e2, e3⟩
  · have := lastSeal_zero h f.calm f.w (by omega) e4 e5
    rw [e1, e2, e3]
    exact this
  · exact lastSeal_right h f.calm f.w (by omega) S.m S.gen S.recs.length e1 hs.1 (by omega) (by omega) e2 e3

set_option maxRecDepth 100000 in
theorem Open_any {w : World} {L : Lay} {D : Dk} {S : JS} (h : DiskAt w L D) (f : Fits13 D S) : Calls Try.prog 9 #[.pointer (some ⟨L.b, 0, none⟩)] w (Opened w L D S) := by
  have hc2 := h.ok.c2
  have hm := f.many (by have := h.ok.n1; omega) hc2
  have hs := f.small
  have h6 := f.c6
  have HCT := hide_ (Count_any h)
  have HON := hide_ (show Calls Try.prog 24 #[.pointer (some ⟨L.b, 0, none⟩)] w fun e w' => e = .returned (.bool true) ∧ w = w' from by have := IsOn_any h; rwa [f.calm.1] at this)
  have HLS := hide_ (seal_any h f)
  obtain ⟨t, ht⟩ : ∃ t, 2 * S.m = t := ⟨_, rfl⟩
  obtain ⟨g, hg⟩ : ∃ g, S.gen = g := ⟨_, rfl⟩
  obtain ⟨k, hk⟩ : ∃ k, S.recs.length = k := ⟨_, rfl⟩
  rw [ht, hg, hk] at HLS
  have HT := hide_ ht
  have HG := hide_ hg
  have HK := hide_ hk
  have H := hide_ h
  have HF := hide_ f
  obtain ⟨c, hc⟩ : ∃ c, D.c = c := ⟨_, rfl⟩
  rw [hc] at HCT h6
  have hno : ¬ c < 6 := by omega
  obtain ⟨bc, hbc⟩ : ∃ b, L.b = b := ⟨_, rfl⟩
  rw [hbc] at HCT HON HLS ⊢
  have HBC := hide_ hbc
  clear h f hc2 hs ht hg hk hc hbc
  go_enter Try.func9, Try.ntmps9
  go_upto_region 6 with (first | (go_at_call 23; refine HCT.out.mono ?_; rintro _ _ ⟨rfl, rfl⟩) | (go_at_call 24; refine HON.out.mono ?_; rintro _ _ ⟨rfl, rfl⟩) | (go_at_call 25; refine HLS.out.mono ?_; rintro _ w1 ⟨rfl, hb1⟩))
  obtain ⟨W2, hW2⟩ : ∃ W, w1.alloc (.cells #[.int .u64 (t : Int), .int .u64 (g : Int), .int .u64 (k : Int)] 75) = W := ⟨_, rfl⟩
  obtain ⟨g5, hg5⟩ : ∃ g, w1.heap.size = g := ⟨_, rfl⟩
  have hb2 : Below w1.heap.size w1 W2 := hW2 ▸ (Below.refl _ _).alloc (Nat.le_refl _) _
  have HX := hide_ (show BoxAt W2 g5 #[.int .u64 (t : Int), .int .u64 (g : Int), .int .u64 (k : Int)] 75 from hg5 ▸ hW2 ▸ BoxAt.new w1 _ _)
  have HB2 := hide_ (show Below w.heap.size w W2 from hb1.trans (hb2.mono hb1.size))
  rw [hW2, hg5]
  have cx := HX.out.cell
  clear hW2 hg5 hb1 hb2 HCT HON HLS
  go_upto_region 9 with fail
  obtain ⟨W3, hW3⟩ : ∃ W, W2.alloc (.cells #[.pointer (some ⟨bc, 0, none⟩), .int .u64 (t : Int), .int .u64 (g : Int), .int .u64 (k : Int), .int .i64 0, .bool false] 79) = W := ⟨_, rfl⟩
  obtain ⟨jb, hjb⟩ : ∃ g, W2.heap.size = g := ⟨_, rfl⟩
  have hb3 : Below W2.heap.size W2 W3 := hW3 ▸ (Below.refl _ _).alloc (Nat.le_refl _) _
  have HB3 := hide_ (HB2.out.trans (hb3.mono HB2.out.size))
  have hwj : w.heap.size ≤ jb := by rw [← hjb]; exact HB2.out.size
  have hJ : JBox W3 L D jb t g k 0 := ⟨H.out.below HB3.out, by
    rw [jcs, HBC.out]
    exact hjb ▸ hW3 ▸ BoxAt.new W2 _ _, fun e => by have := H.out.lt e; omega⟩
  have har := HF.out.area
  have hfi := HF.out.fit
  unfold JS.used at har hfi
  have HSC := hide_ (scan_any hJ HF.out.calm HF.out.w HF.out.c6 S.recs HK.out (by rw [← HK.out]; exact hm) (by rw [← HG.out]; have := HF.out.small; omega) HF.out.recs (by rw [← HG.out]; exact har) (by rw [← HG.out]; exact hfi))
  rw [hW3, hjb]
  clear hW3 hjb hb3 hJ har hfi cx
  go_wp2_with (go_at_call 26; refine HSC.out.mono ?_; rintro _ w4 ⟨A, c4, vs, rfl, hj4, how4, hrw4, hc4⟩; (have HJ4 := hide_ hj4); (have HO4 := hide_ how4); (have HR4 := hide_ hrw4); (have HC4 := hide_ hc4); clear hj4 how4 hrw4 hc4)
  refine bodyPost_ret (v := .tuple #[.pointer (some ⟨jb, 0, none⟩), .slice A k c4, .int .i64 0]) (by simp [results, Try.results9, go_sem]) rfl ?_
  unfold Opened
  rw [HK.out]
  refine ⟨jb, A, c4, vs, rfl, hwj, ⟨?_, HF.out⟩, own_mono HO4.out HB3.out.size, HR4.out, HB3.out.trans (HC4.out.below HB3.out.size (fun q e => by rw [e]; exact hwj))⟩
  rw [HT.out, HG.out, HK.out]
  have := HJ4.out
  rw [← HG.out] at this
  rwa [← HG.out]
end Go.Proofs.Ytecbpmnolgkllaa

/-
  Contracts of the journal's write and keep.
-/
namespace Go.Proofs.Ytecbpmnolgkllaa
open Go.RowKit

/-- a journal's box behind writes to its disk -/
def JDoes (w : World) (L : Lay) (D' : Dk) (jb t g k u : Nat) (w' : World) : Prop :=
  ∃ L', L'.b = L.b ∧ JBox w' L' D' jb t g k u ∧ Chg (fun q => L.has q ∨ q = jb) w w' ∧ ∀ q, L'.has q → L.has q ∨ w.heap.size ≤ q
section
variable {w w' : World} {L : Lay} {D D' : Dk} {jb t g k u : Nat}
theorem JBox.lt (h : JBox w L D jb t g k u) : jb < w.heap.size := h.x.lt
theorem JBox.did (h : JBox w L D jb t g k u) (hd : Does L w w' D') : ∃ L', L'.b = L.b ∧ JBox w' L' D' jb t g k u ∧ Chg L.has w w' ∧ ∀ q, L'.has q → L.has q ∨ w.heap.size ≤ q := by
  obtain ⟨L', eb, hd', hc, hs⟩ := hd
  refine ⟨L', eb, ⟨hd', ?_, fun e => ?_⟩, hc, hs⟩
  · rw [eb]
    exact (hc.block _ h.x.lt h.h).trans h.x
  · rcases hs _ e with e | e
    · exact h.h e
    · have := h.lt
      omega
theorem JDoes.trans {w1 w2 : World} {L1 : Lay} {D2 : Dk} {t2 g2 k2 u2 : Nat} (hL : L1.b = L.b) (hc : Chg (fun q => L.has q ∨ q = jb) w w1) (hs : ∀ q, L1.has q → L.has q ∨ w.heap.size ≤ q) (h2 : JDoes w1 L1 D2 jb t2 g2 k2 u2 w2) : JDoes w L D2 jb t2 g2 k2 u2 w2 := by
  obtain ⟨L2, eb, hb, hc2, hs2⟩ := h2
  refine ⟨L2, eb.trans hL, hb, hc.trans hc2 (fun q e hq => ?_), fun q e => ?_⟩
  · rcases e with e | e
    · rcases hs q e with e | e
      · exact .inl e
      · omega
    · exact .inr e
  · rcases hs2 q e with e | e
    · exact hs q e
    · exact .inr (Nat.le_trans hc.size e)

set_option maxRecDepth 100000 in
theorem write_any (h : JBox w L D jb t g k u) (hc : D.calm) (hw : D.waits = []) (a q z b cap : Nat) (A : Option Addr) (F : List UInt8) (hA : 0 < q → A = some ⟨b, 0, none⟩ ∧ RowIs w b F ∧ ¬ L.has b) (hF : F.length = z) (hz : q * D.n = z) (haq : a + q ≤ D.c) (hcap : z ≤ cap) :
    Calls Try.prog 61 #[.pointer (some ⟨jb, 0, none⟩), .int .i64 (a : Int), .slice A z cap] w fun e w' => e = .returned (.int .i64 0) ∧ JDoes w L (wroteD D a F) jb t g k u w' := by
  obtain ⟨c0, _⟩ := h.cells
  have HW := hide_ (writeTo_any h.d hc hw a q z b cap A F hA hF hz haq hcap)
  have H := hide_ h
  clear h hc hw hA hF hz haq hcap
  go_enter Try.func61, Try.ntmps61
  go_wp2_with (go_at_call 93; refine HW.out.mono ?_; rintro _ w1 ⟨rfl, hd1⟩; (obtain ⟨L1, eb1, hj1, hc1, hs1⟩ := H.out.did hd1); (obtain ⟨_, _, _, _, _, c5⟩ := hj1.cells); (have f5 := hj1.x.free9 5); (have HJ1 := hide_ hj1); (have HC1 := hide_ hc1); (have HS1 := hide_ hs1); clear hj1 hc1 hs1 hd1)
  go_ret
  refine ⟨rfl, L1, eb1, ⟨?_, ?_, HJ1.out.h⟩, ?_, HS1.out⟩
  · exact HJ1.out.d.stay fun q hq => (grown_cell9 w1 jb 5 (.bool false)).block q (HJ1.out.d.lt hq) (fun e => HJ1.out.h (by cases e; exact hq))
  · have := HJ1.out.x.set9 5 (.bool false)
    simpa [jcs] using this
  · exact (HC1.out.mono (fun q e => Or.inl e)).trans (Chg.of_grown (S := fun q => L.has q ∨ q = jb) (grown_cell9 w1 jb 5 (.bool false)) (.inl (.inr rfl))) (fun _ e _ => e)

/-- the seals' fields and what is used are told -/
theorem JBox.seal (h : JBox w L D jb t g k u) (t' g' k' u' : Nat) : JBox ((((w.setCell ⟨jb, 1, none⟩ (.int .u64 (t' : Int))).setCell ⟨jb, 2, none⟩ (.int .u64 (g' : Int))).setCell ⟨jb, 3, none⟩ (.int .u64 (k' : Int))).setCell ⟨jb, 4, none⟩ (.int .i64 (u' : Int))) L D jb t' g' k' u' ∧
    w.grownBy ((((w.setCell ⟨jb, 1, none⟩ (.int .u64 (t' : Int))).setCell ⟨jb, 2, none⟩ (.int .u64 (g' : Int))).setCell ⟨jb, 3, none⟩ (.int .u64 (k' : Int))).setCell ⟨jb, 4, none⟩ (.int .i64 (u' : Int))) (some jb) := by
  have hg : w.grownBy ((((w.setCell ⟨jb, 1, none⟩ (.int .u64 (t' : Int))).setCell ⟨jb, 2, none⟩ (.int .u64 (g' : Int))).setCell ⟨jb, 3, none⟩ (.int .u64 (k' : Int))).setCell ⟨jb, 4, none⟩ (.int .i64 (u' : Int))) (some jb) :=
    grown_set (grown_set (grown_set (grown_set (World.grownBy.refl w _) 1 _) 2 _) 3 _) 4 _
  refine ⟨⟨h.d.stay fun q hq => hg.block q (h.d.lt hq) (fun e => h.h (by cases e; exact hq)), ?_, h.h⟩, hg⟩
  have := (((h.x.set9 1 (.int .u64 (t' : Int))).set9 2 (.int .u64 (g' : Int))).set9 3 (.int .u64 (k' : Int))).set9 4 (.int .i64 (u' : Int))
  simpa [jcs] using this
end
end Go.Proofs.Ytecbpmnolgkllaa
