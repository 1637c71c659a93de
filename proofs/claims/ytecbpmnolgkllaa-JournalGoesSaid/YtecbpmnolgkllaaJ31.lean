/-
  Texts of this claim put together: Step12, Aw12, Pair12.
-/
import Derived.Test.YtecbpmnolgkllaaJ30
import Derived.Test.YtecbpmnolgkllaaJ15
import Derived.IntWalk
/-
  A row of a disk's calls that comes in; the law's bound on it, and its example.
-/
namespace Go.Proofs.Ytecbpmnolgkllaa
open Go.RowKit

theorem bv_flat (l : List UInt8) : l.flatMap (fun b => [Value.int .u8 (b.toNat : Int)]) = bv l := by
  induction l with
  | nil => rfl
  | cons b l ih => rw [List.flatMap_cons, ih]; rfl
/-- bytes as they come in -/
def bytesOk (w : World) (B : Nat) (s : Sl UInt8) : Prop := Sees w B s.A (bv s.l) ∧ s.l.length ≤ s.c ∧ s.c ≤ maxLen
theorem bytes_stable : Stable bytesOk := fun _ _ _ _ _ h hk hB => ⟨(h.1.keep hk).more hB, h.2⟩

/-- a call as it comes in -/
structure StM where
  ki : Int
  i : Int
  q : Int
  b : Sl UInt8
  t : Bool
  y : UInt8
def StM.cs (s : StM) : List Value := [.int .i64 s.ki, .int .i64 s.i, .int .i64 s.q, s.b.v, .bool s.t, .int .u8 (s.y.toNat : Int)]
def StM.ok (w : World) (B : Nat) (s : StM) : Prop := (I64 s.ki ∧ I64 s.i ∧ I64 s.q) ∧ bytesOk w B s.b
theorem st_stable : Stable StM.ok := fun w w' B B' x h hk hB => ⟨h.1, bytes_stable w w' B B' x.b h.2 hk hB⟩
def stepsOk (w : World) (B : Nat) (s : Sl StM) : Prop := Sl.ok StM.cs StM.ok w B s
theorem steps_stable : Stable stepsOk := Sl.stable st_stable
theorem Sees.st {w : World} {B : Nat} {A : Option Addr} {l : List StM} {k : Nat} {x : StM} (h : Sees w B A (l.flatMap StM.cs)) (hk : l[k]? = some x) :
    ∃ b o, A = some ⟨b, o, none⟩ ∧ b < B ∧ w.cell? ⟨b, o + k * 6, none⟩ = some (.int .i64 x.ki) ∧ w.cell? ⟨b, o + k * 6 + 1, none⟩ = some (.int .i64 x.i) ∧ w.cell? ⟨b, o + k * 6 + 2, none⟩ = some (.int .i64 x.q) ∧ w.cell? ⟨b, o + k * 6 + 3, none⟩ = some x.b.v ∧
      w.cell? ⟨b, o + k * 6 + 4, none⟩ = some (.bool x.t) ∧ w.cell? ⟨b, o + k * 6 + 5, none⟩ = some (.int .u8 (x.y.toNat : Int)) := by
  obtain ⟨b, o, e, hb, hc⟩ := h.at (q := 6) (fun _ => rfl) (by omega) hk
  exact ⟨b, o, e, hb, hc 0 _ rfl, hc 1 _ rfl, hc 2 _ rfl, hc 3 _ rfl, hc 4 _ rfl, hc 5 _ rfl⟩

section
open Go.ChangeShapes Go.WideShapes Go.ChangeAt
variable {H : Type} {enc : TypeId × Value → H} {w : World} {base : Nat} {spare : Nat → Bool} {held : Bool}
theorem open_byte {n : Nat} {v : Value} {y : DataW H × List MemPlace} (h : DataW.trod enc Try.prog w base spare held n 5 [v] = some y) : ∃ b : UInt8, v = .int .u8 (b.toNat : Int) := by
  obtain ⟨a, rfl, ha, hb⟩ := open_u8c Try.underlying5 h
  refine ⟨UInt8.ofNat a.toNat, ?_⟩
  rw [byte_of (by omega)]
  congr 1
  omega
set_option maxRecDepth 100000 in
theorem open_bytesc {n : Nat} {v : Value} {y : DataW H × List MemPlace} (h : DataW.trod enc Try.prog w base spare held n 38 [v] = some y) : ∃ s : Sl UInt8, v = s.v ∧ bytesOk w w.heap.size s := by
  obtain ⟨s, hv, h1, h2, h3, _⟩ := open_sl (fun b : UInt8 => [Value.int .u8 (b.toNat : Int)]) (fun _ => True) (q := 1) (by omega) Try.underlying38 (by kernel_rfl) (fun _ => rfl) (fun n xs y hl h => by
    match xs, hl with
    | [c0], _ =>
      obtain ⟨b, rfl⟩ := open_byte h
      exact ⟨b, rfl, trivial⟩) h
  rw [bv_flat] at h3
  exact ⟨s, hv, h3, h1, h2⟩
theorem open_boolc {n : Nat} {v : Value} {y : DataW H × List MemPlace} (h : DataW.trod enc Try.prog w base spare held n 4 [v] = some y) : ∃ t : Bool, v = .bool t := by
  obtain ⟨t, e, _⟩ := DataW.trod_bool Try.underlying4 h
  injection e with e _
  exact ⟨t, e⟩

end

/-- more than is gone through? -/
def greatD (n c : Int) (l : List StM) : Bool := decide (n < 64 ∨ 512 < n ∨ c < 1 ∨ 40 < c ∨ 60 < l.length ∨ ∃ s ∈ l, 600 < s.b.l.length)

end Go.Proofs.Ytecbpmnolgkllaa
/-
  The law's example: a write that isn't synced is lost.
-/
namespace Go.Proofs.Ytecbpmnolgkllaa
open Go.RowKit

/-- the row that the example writes -/
def ex12 : List UInt8 := (List.replicate 64 0).set 0 9
theorem ex_len : ex12.length = 64 := rfl

def exD1 : Dk := writeD (makeD 64 2) 1 ex12
def exD2 : Dk := backD exD1 0 false
theorem ex_err : errD (makeD 64 2) 1 ex12.length = 0 := by decide
theorem ex_reach : reachD exD2 1 = 0 := by decide
theorem ex_read : rdB exD2 1 = List.replicate 64 0 := by rfl

end Go.Proofs.Ytecbpmnolgkllaa
/-
  Two disks beside each other; what writes to a disk that is on leave.
-/
namespace Go.Proofs.Ytecbpmnolgkllaa
open Go.RowKit

/-- two disks of a call's own, apart from each other -/
structure Pair (w : World) (Lc Ld : Lay) (D E : Dk) (wr : World) : Prop where
  c : DiskAt wr Lc D
  d : DiskAt wr Ld E
  ap : ∀ g, Lc.has g → ¬ Ld.has g
  b : Below w.heap.size w wr
  hc : ∀ g, Lc.has g → w.heap.size ≤ g
  hd : ∀ g, Ld.has g → w.heap.size ≤ g

section
variable {w wr w' : World} {Lc Ld : Lay} {D E D' : Dk}
end

/-- on, and without a fuse -/
def Dk.calm (D : Dk) : Prop := D.on = true ∧ D.hf = false
theorem write_calm {D : Dk} (h : D.calm) (i : Int) (l : List UInt8) : (writeD D i l).calm ∧ (writeD D i l).n = D.n ∧ (writeD D i l).c = D.c ∧ (writeD D i l).waits.length ≤ D.waits.length + 1 ∧ (writeD D i l).kept = D.kept := by
  unfold writeD
  split
  · split
    · rw [burnD, if_neg (by rw [h.2]; simp)]
      exact ⟨h, rfl, rfl, by simp, rfl⟩
    · exact ⟨h, rfl, rfl, by omega, rfl⟩
  · exact ⟨h, rfl, rfl, by omega, rfl⟩
theorem sync_calm {D : Dk} (h : D.calm) : serrD D = 0 ∧ syncD D = decideD D D.waits.length false := by
  have hb : burnsD D = false := by rw [burnsD, h.2]; rfl
  refine ⟨by rw [serrD, if_pos h.1, if_neg (by rw [hb]; simp)], ?_⟩
  rw [syncD, if_pos h.1, if_neg (by rw [hb]; simp), burnD, if_neg (by rw [h.2]; simp)]
theorem make_calm (n c : Nat) : (makeD n c).calm := ⟨rfl, rfl⟩
theorem read_on {D : Dk} (h : D.on = true) {i : Int} (h0 : 0 ≤ i) (h1 : i < D.c) : reachD D i = 0 := by
  rw [reachD, if_pos h, if_pos ⟨h0, h1⟩]
theorem rd_none {D : Dk} (h : D.on = true) (hw : D.waits = []) {i : Nat} (h1 : i < D.c) : rdB D i = D.kept i := by
  rw [rdB, if_pos (read_on h (by omega) (by omega)), Int.toNat_natCast, newD, hw]
  rfl
/-- all that waits stays: as if it were synced -/
theorem back_all {D : Dk} (h : D.calm) {k : Int} (hk : (D.waits.length : Int) ≤ k) : (backD D k false).kept = (syncD D).kept ∧ (backD D k false).on = true ∧ (backD D k false).waits = [] ∧ (backD D k false).c = D.c ∧ (backD D k false).n = D.n ∧
    (syncD D).on = true ∧ (syncD D).waits = [] ∧ (syncD D).c = D.c ∧ (syncD D).n = D.n := by
  have hm : min k.toNat D.waits.length = D.waits.length := by omega
  have hf : (fallD D).waits = D.waits := fallD_waits D
  have hk : (fallD D).kept = D.kept := by
    unfold fallD
    split <;> rfl
  rw [(sync_calm h).2, backD, hm]
  refine ⟨?_, rfl, rfl, (fallD_n D).2, (fallD_n D).1, h.1, rfl, rfl, rfl⟩
  show (decideD (fallD D) D.waits.length false).kept = _
  rw [decideD, decideD, hf, hk, (fallD_n D).1]
end Go.Proofs.Ytecbpmnolgkllaa
