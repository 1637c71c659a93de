/-
  Two disks beside each other; what writes to a disk that is on leave.
-/
import Derived.Test.YtcpoppfifadbiaaAw12
namespace Go.Proofs.Ytcpoppfifadbiaa
open Go.RowKit

/-- two disks of a call's own, apart from each other -/
structure Pair (w : World) (Lc Ld : Lay) (D E : Dk) (wr : World) : Prop where
  c : DiskAt wr Lc D
  d : DiskAt wr Ld E
  ap : ∀ g, Lc.has g → ¬ Ld.has g
  b : Below w.heap.size w wr
  hc : ∀ g, Lc.has g → w.heap.size ≤ g
  hd : ∀ g, Ld.has g → w.heap.size ≤ g

section
variable {w wr w' : World} {Lc Ld : Lay} {D E D' : Dk}
theorem Pair.below (h : Pair w Lc Ld D E wr) (hb : Below wr.heap.size wr w') : Pair w Lc Ld D E w' := ⟨h.c.below hb, h.d.below hb, h.ap, h.b.trans (hb.mono h.b.size), h.hc, h.hd⟩
theorem Pair.drew (h : Pair w Lc Ld D E wr) : Pair w Lc Ld D E wr.drew := h.below ((Below.refl _ _).drew)
theorem Pair.turn (h : Pair w Lc Ld D E wr) : Pair w Ld Lc E D wr := ⟨h.d, h.c, fun g h1 h2 => h.ap g h2 h1, h.b, h.hd, h.hc⟩
theorem Pair.left (h : Pair w Lc Ld D E wr) (hd : Does Lc wr w' D') : ∃ L', L'.b = Lc.b ∧ Pair w L' Ld D' E w' := by
  obtain ⟨L', eb, hd', hc, hs⟩ := hd
  refine ⟨L', eb, hd', h.d.beside hc (fun g h1 h2 => h.ap g h2 h1), fun g h1 h2 => ?_, h.b.trans (hc.below h.b.size h.hc), fun g hg => ?_, h.hd⟩
  · rcases hs g h1 with e | e
    · exact h.ap g e h2
    · have := h.d.lt h2
      omega
  · rcases hs g hg with e | e
    · exact h.hc g e
    · exact Nat.le_trans h.b.size e
theorem Pair.write {bc : Nat} (h : Pair w Lc Ld D E wr) (eb : Lc.b = bc) (i : Int) (s : Sl UInt8) (hs : bytesOk w w.heap.size s) (hn : D.waits.length + 1 ≤ 100000) (hl : s.l.length ≤ 1000000) {m : Nat} (hm : s.l.length = m) :
    Calls Try.prog 27 #[.pointer (some ⟨bc, 0, none⟩), .int .i64 i, .slice s.A m s.c] wr fun e w' => e = .returned (.int .i64 (errD D i m)) ∧ ∃ L', L'.b = bc ∧ Pair w L' Ld (writeD D i s.l) E w' := by
  subst eb hm
  refine (Write_any h.c i s.l w.heap.size s.A s.l.length s.c (hs.1.below h.b) rfl h.b.size hn hl).mono ?_
  rintro e w' ⟨he, hd⟩
  exact ⟨he, h.left hd⟩
theorem Pair.sync {bc : Nat} (h : Pair w Lc Ld D E wr) (eb : Lc.b = bc) : Calls Try.prog 31 #[.pointer (some ⟨bc, 0, none⟩)] wr fun e w' => e = .returned (.int .i64 (serrD D)) ∧ ∃ L', L'.b = bc ∧ Pair w L' Ld (syncD D) E w' := by
  subst eb
  refine (Sync_any h.c).mono ?_
  rintro e w' ⟨he, hd⟩
  exact ⟨he, h.left hd⟩
theorem Pair.back {bc : Nat} (h : Pair w Lc Ld D E wr) (eb : Lc.b = bc) (k : Int) (t : Bool) : Calls Try.prog 15 #[.pointer (some ⟨bc, 0, none⟩), .int .i64 k, .bool t] wr fun e w' => e = .returned (.tuple #[]) ∧ ∃ L', L'.b = bc ∧ Pair w L' Ld (backD D k t) E w' := by
  subst eb
  refine (Back_any h.c k t).mono ?_
  rintro e w' ⟨he, hd⟩
  exact ⟨he, h.left hd⟩
theorem Pair.read {bc : Nat} (h : Pair w Lc Ld D E wr) (eb : Lc.b = bc) (i : Int) : Calls Try.prog 17 #[.pointer (some ⟨bc, 0, none⟩), .int .i64 i] wr (ReadR wr D i) := by
  subst eb
  exact Read_any h.c i
end

/-- on, and without a fuse -/
def Dk.calm (D : Dk) : Prop := D.on = true ∧ D.hf = false
theorem write_calm {D : Dk} (h : D.calm) (i : Int) (l : List UInt8) : (writeD D i l).calm ∧ (writeD D i l).n = D.n ∧ (writeD D i l).c = D.c ∧ (writeD D i l).waits.length ≤ D.waits.length + 1 ∧ (writeD D i l).kept = D.kept := by
  unfold writeD
  split
  · split
    · rw [burnD, if_neg (by rw [h.2]; simp)]
      exact ⟨h, rfl, rfl, by simp, rfl⟩
    · exact ⟨h, rfl, rfl, by omega, rfl⟩
  · exact ⟨h, rfl, rfl, by omega, rfl⟩
theorem sync_calm {D : Dk} (h : D.calm) : serrD D = 0 ∧ syncD D = decideD D D.waits.length false := by
  have hb : burnsD D = false := by rw [burnsD, h.2]; rfl
  refine ⟨by rw [serrD, if_pos h.1, if_neg (by rw [hb]; simp)], ?_⟩
  rw [syncD, if_pos h.1, if_neg (by rw [hb]; simp), burnD, if_neg (by rw [h.2]; simp)]
theorem make_calm (n c : Nat) : (makeD n c).calm := ⟨rfl, rfl⟩
theorem read_on {D : Dk} (h : D.on = true) {i : Int} (h0 : 0 ≤ i) (h1 : i < D.c) : reachD D i = 0 := by
  rw [reachD, if_pos h, if_pos ⟨h0, h1⟩]
theorem rd_none {D : Dk} (h : D.on = true) (hw : D.waits = []) {i : Nat} (h1 : i < D.c) : rdB D i = D.kept i := by
  rw [rdB, if_pos (read_on h (by omega) (by omega)), Int.toNat_natCast, newD, hw]
  rfl
/-- all that waits stays: as if it were synced -/
theorem back_all {D : Dk} (h : D.calm) {k : Int} (hk : (D.waits.length : Int) ≤ k) : (backD D k false).kept = (syncD D).kept ∧ (backD D k false).on = true ∧ (backD D k false).waits = [] ∧ (backD D k false).c = D.c ∧ (backD D k false).n = D.n ∧
    (syncD D).on = true ∧ (syncD D).waits = [] ∧ (syncD D).c = D.c ∧ (syncD D).n = D.n := by
  have hm : min k.toNat D.waits.length = D.waits.length := by omega
  have hf : (fallD D).waits = D.waits := fallD_waits D
  have hk : (fallD D).kept = D.kept := by
    unfold fallD
    split <;> rfl
  rw [(sync_calm h).2, backD, hm]
  refine ⟨?_, rfl, rfl, (fallD_n D).2, (fallD_n D).1, h.1, rfl, rfl, rfl⟩
  show (decideD (fallD D) D.waits.length false).kept = _
  rw [decideD, decideD, hf, hk, (fallD_n D).1]
end Go.Proofs.Ytcpoppfifadbiaa
