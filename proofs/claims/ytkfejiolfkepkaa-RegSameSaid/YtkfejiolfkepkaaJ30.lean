/-
  Texts of this claim put together: Tk6b, May6.
-/
import Derived.Test.YtkfejiolfkepkaaJ29
import Derived.Deep.RegionHeldLaw
import Derived.IntWalk
import Derived.Test.YtkfejiolfkepkaaJ25
import Derived.Test.YtkfejiolfkepkaaJ26
import Derived.Test.YtkfejiolfkepkaaJ27
import Derived.Test.YtkfejiolfkepkaaJ28
/-
  Contracts of reg's taker: cells, marks, replies, entries.
-/
namespace Go.Proofs.Ytkfejiolfkepkaa
open Go.RowKit

/-- a reply -/
structure RepM where
  er : Int
  inc : Int
  st : Int
  va : IntS
def RepM.v (d : RepM) : Value := .agg #[.int .i64 d.er, .int .u64 d.inc, .int .i64 d.st, d.va.v]
def RepM.ok (w : World) (B : Nat) (d : RepM) : Prop := (I64 d.er ∧ U64 d.inc ∧ I64 d.st) ∧ intsOk w B d.va
def RepM.ft (d : RepM) : Nat → Prop := Sl.ft noFt d.va
def RepM.p (d : RepM) : RepP := (d.er, d.inc, d.st, d.va.l)
theorem rep_local : Local RepM.ok RepM.ft := fun w w' B B' x h hk hB => ⟨h.1, ints_local w w' B B' x.va h.2 hk hB⟩
theorem rep_stable : Stable RepM.ok := fun w w' B B' x h hk hB => ⟨h.1, ints_stable w w' B B' x.va h.2 hk hB⟩
theorem done_of {w : World} {B : Nat} {a b : Int} {r : RepM} (h1 : U8 a) (h2 : U64 b) (h : RepM.ok w B r) : DoneM.ok w B ⟨a, b, r.er, r.inc, r.st, r.va⟩ := ⟨⟨h1, h2, h.1⟩, h.2⟩

def varS (s : RS) : List Int × RS := manyS 1000 intS s
def repS (s : RS) : RepP × RS :=
  ((((numS 1000 s).1 : Int), ((numBig (numS 1000 s).2).1 : Int), ((numS 1000 (numBig (numS 1000 s).2).2).1 : Int), (varS (numS 1000 (numBig (numS 1000 s).2).2).2).1), (varS (numS 1000 (numBig (numS 1000 s).2).2).2).2)
def doneS (s : RS) : DoneP × RS :=
  ((((numS 255 s).1 : Int), ((numBig (numS 255 s).2).1 : Int), (repS (numBig (numS 255 s).2).2).1), (repS (numBig (numS 255 s).2).2).2)
def celS (s : RS) : CelM × RS :=
  ((((numBig s).1 : Int), ((numS 255 (numBig s).2).1 : Int), ((numS 1000 (numS 255 (numBig s).2).2).1 : Int), (intS (numS 1000 (numS 255 (numBig s).2).2).2).1), (intS (numS 1000 (numS 255 (numBig s).2).2).2).2)
def mrkS (s : RS) : MrkM × RS :=
  ((((numS 255 s).1 : Int), ((numBig (numS 255 s).2).1 : Int), ((numBig (numBig (numS 255 s).2).2).1 : Int)), (numBig (numBig (numS 255 s).2).2).2)
theorem varS_ok {s : RS} (h : RSok s) : RSok (varS s).2 := manyS_ok (fun _ h => (intS_ok h).1) h
theorem repS_ok {s : RS} (h : RSok s) : RSok (repS s).2 := varS_ok (numS_ok (numBig_ok (numS_ok h).1).1).1
theorem doneS_ok {s : RS} (h : RSok s) : RSok (doneS s).2 := repS_ok (numBig_ok (numS_ok h).1).1
theorem celS_ok {s : RS} (h : RSok s) : RSok (celS s).2 := (intS_ok (numS_ok (numS_ok (numBig_ok h).1).1).1).1
theorem mrkS_ok {s : RS} (h : RSok s) : RSok (mrkS s).2 := (numBig_ok (numBig_ok (numS_ok h).1).1).1

set_option maxRecDepth 100000 in
/-- many whole numbers, by the reader's own method -/
theorem intsOf6_any {g : Nat} {s : RS} {w : World} (h : Rdr w g s.1 s.2) (hs : RSok s) : Calls Try.prog 56 #[takerV g, .func (.func 57) #[.pointer (some ⟨g, 0, none⟩)] #[]] w (PartR Sl.v (fun x => x.l) intsOk (Sl.ft noFt) w g (varS s)) := by
  refine (manyInt6_any id 57 #[.pointer (some ⟨g, 0, none⟩)] #[] intS h hs (fun _ h => (intS_ok h).1) (fun _ _ => rfl) (fun w1 s1 _ hr hs1 => (Int_st hr hs1).mono ?_)).mono ?_
  · rintro en w2 ⟨rfl, hr2, hg2⟩
    exact ⟨(intS s1).1, rfl, rfl, (intS_ok hs1).2, fun _ h => h.elim, hr2, hg2⟩
  · rintro en w2 ⟨x, rfl, hp, ho, hl, hr, hg⟩
    exact ⟨x, rfl, by rw [← show x.l.map id = (varS s).1 from hp, List.map_id], ho, hl, hr, hg⟩

end Go.Proofs.Ytkfejiolfkepkaa

/-
  Contracts of reg's functions that tell which registers may be, but for May.
-/
namespace Go.Proofs.Ytkfejiolfkepkaa
open Go.RowKit

theorem mayState_any (st : Int) (A : Option Addr) (va : List Int) (n c : Nat) (hn : va.length = n) (hm : n ≤ 9223372036854775807) (w : World) : Calls Try.prog 48 #[.int .i64 st, .slice A n c] w fun e w' => e = .returned (.bool (staB st va)) ∧ w = w' := by
  have HR := hide_ (show staB st va = (inB st 0 31 && decide (n ≤ 8)) by unfold staB; rw [hn])
  rw [HR.out]
  clear hn
  cases h : inB st 0 31 with
  | false =>
    have HI := hide_ h
    clear h
    go_enter Try.func48, Try.ntmps48
    go_wp2_with fail
    refine (withinInt_any _ _ _ _).mono ?_
    rw [HI.out]
    rintro en w1 ⟨rfl, rfl⟩
    go_wp2
    go_ret
    exact ⟨rfl, rfl⟩
  | true =>
    have HI := hide_ h
    clear h
    by_cases h8 : n ≤ 8
    · have hd : decide ((n : Int) ≤ 8) = true := decide_eq_true (by omega)
      have HD := hide_ (show (true && decide (n ≤ 8)) = true by simp [h8])
      clear h8
      go_enter Try.func48, Try.ntmps48
      go_wp2_with fail
      refine (withinInt_any _ _ _ _).mono ?_
      rw [HI.out]
      rintro en w1 ⟨rfl, rfl⟩
      go_wp2
      go_ret
      exact ⟨ret_boolT HD.out.symm, rfl⟩
    · have hd : decide ((n : Int) ≤ 8) = false := decide_eq_false (by omega)
      have HD := hide_ (show (true && decide (n ≤ 8)) = false by simp [h8])
      clear h8
      go_enter Try.func48, Try.ntmps48
      go_wp2_with fail
      refine (withinInt_any _ _ _ _).mono ?_
      rw [HI.out]
      rintro en w1 ⟨rfl, rfl⟩
      go_wp2
      go_ret
      exact ⟨ret_boolT HD.out.symm, rfl⟩

theorem mayReply_any (r : RepM) (hm : r.va.l.length ≤ 9223372036854775807) (w : World) : Calls Try.prog 69 #[r.v] w fun e w' => e = .returned (.bool (repB r.p)) ∧ Below w.heap.size w w' := by
  obtain ⟨er, inc, st, ⟨A, c, va⟩⟩ := r
  obtain ⟨n, hn⟩ : ∃ n, va.length = n := ⟨_, rfl⟩
  simp only [hn] at hm
  have HS := hide_ (fun u => mayState_any st A va n c hn hm u)
  simp only [RepM.v, Sl.v, RepM.p, hn]
  clear hn
  have HR := hide_ (show repB (er, inc, st, va) = (inB er 0 99 && staB st va) from rfl)
  rw [HR.out]
  clear HR
  cases h : inB er 0 99 with
  | false =>
    have HI := hide_ h
    clear h
    go_enter Try.func69, Try.ntmps69
    go_wp2_with fail
    refine (withinErr_any _ _ _ _).mono ?_
    rw [HI.out]
    rintro en w1 ⟨rfl, rfl⟩
    go_wp2
    go_ret
    exact ⟨rfl, (Below.refl _ _).alloc (Nat.le_refl _) _⟩
  | true =>
    have HI := hide_ h
    clear h
    obtain ⟨q, hq⟩ : ∃ q, staB st va = q := ⟨_, rfl⟩
    simp only [hq] at HS
    rw [hq]
    clear hq
    go_enter Try.func69, Try.ntmps69
    go_wp2_with fail
    refine (withinErr_any _ _ _ _).mono ?_
    rw [HI.out]
    rintro en w1 ⟨rfl, rfl⟩
    go_wp2_with fail
    refine (HS.out _).mono ?_
    rintro en w2 ⟨rfl, rfl⟩
    go_wp2
    go_ret
    exact ⟨by simp, (Below.refl _ _).alloc (Nat.le_refl _) _⟩

theorem numD_any (x : DoneM) (hx : U8 x.cl) (w : World) : Calls Try.prog 67 #[x.v] w fun e w' => e = .returned (.int .u64 x.cl) ∧ Below w.heap.size w w' := by
  obtain ⟨cl, sq, er, inc, st, ⟨vA, vc, vl⟩⟩ := x
  obtain ⟨h1, h2⟩ := hx
  simp only at h1 h2
  simp only [DoneM.v, Sl.v]
  go_enter Try.func67, Try.ntmps67
  go_wp2
  go_ret
  exact ⟨rfl, (Below.refl _ _).alloc (Nat.le_refl _) _⟩
theorem numC_any (x : CelM) (w : World) : Calls Try.prog 72 #[celV x] w fun e w' => e = .returned (.int .u64 x.1) ∧ Below w.heap.size w w' := by
  obtain ⟨a, b, c, d⟩ := x
  simp only [celV]
  go_enter Try.func72, Try.ntmps72
  go_wp2
  go_ret
  exact ⟨rfl, (Below.refl _ _).alloc (Nat.le_refl _) _⟩
theorem numM_any (x : MrkM) (hx : U8 x.1) (w : World) : Calls Try.prog 76 #[mrkV x] w fun e w' => e = .returned (.int .u64 x.1) ∧ Below w.heap.size w w' := by
  obtain ⟨a, b, c⟩ := x
  obtain ⟨h1, h2⟩ := hx
  simp only at h1 h2
  simp only [mrkV]
  go_enter Try.func76, Try.ntmps76
  go_wp2
  go_ret
  exact ⟨rfl, (Below.refl _ _).alloc (Nat.le_refl _) _⟩

theorem mayNotD_any (x : DoneM) (hm : x.va.l.length ≤ 9223372036854775807) (w : World) : Calls Try.prog 68 #[x.v] w fun e w' => e = .returned (.bool (decide (x.sq = 0) || !(repB x.p.2.2))) ∧ Below w.heap.size w w' := by
  obtain ⟨cl, sq, er, inc, st, ⟨vA, vc, vl⟩⟩ := x
  have HC := hide_ (fun u => mayReply_any ⟨er, inc, st, ⟨vA, vc, vl⟩⟩ hm u)
  simp only [RepM.v, Sl.v, RepM.p] at HC
  simp only [DoneM.v, Sl.v, DoneM.p]
  obtain ⟨q, hq⟩ : ∃ q, repB (er, inc, st, vl) = q := ⟨_, rfl⟩
  simp only [hq] at HC ⊢
  clear hq hm
  by_cases h0 : sq = 0
  · have hb : (sq == 0) = true := by simp [h0]
    have HD := hide_ (show (decide (sq = 0) || !q) = true by simp [h0])
    clear h0
    go_enter Try.func68, Try.ntmps68
    go_wp2
    go_ret
    exact ⟨ret_boolT HD.out.symm, (Below.refl _ _).alloc (Nat.le_refl _) _⟩
  · have hb : (sq == 0) = false := beq_eq_false_iff_ne.2 h0
    have HD := hide_ (show (decide (sq = 0) || !q) = !q by simp [h0])
    clear h0
    go_enter Try.func68, Try.ntmps68
    go_wp2_with fail
    refine (HC.out _).mono ?_
    rintro en w1 ⟨rfl, hb1⟩
    have HB1 := hide_ (((Below.refl w.heap.size w).alloc (Nat.le_refl _) _).trans (hb1.mono (by simp)))
    clear hb1
    go_wp2
    go_ret
    exact ⟨ret_boolT HD.out.symm, HB1.out⟩
theorem mayNotC_any (x : CelM) (w : World) : Calls Try.prog 73 #[celV x] w fun e w' => e = .returned (.bool (decide (16 ≤ x.2.1) || !(inB x.2.2.1 0 31))) ∧ Below w.heap.size w w' := by
  obtain ⟨a, b, c, d⟩ := x
  simp only [celV]
  by_cases h0 : 16 ≤ b
  · have hb : decide (16 ≤ b) = true := decide_eq_true h0
    have HD := hide_ (show (decide (16 ≤ b) || !(inB c 0 31)) = true by simp [h0])
    clear h0
    go_enter Try.func73, Try.ntmps73
    go_wp2
    go_ret
    exact ⟨ret_boolT HD.out.symm, (Below.refl _ _).alloc (Nat.le_refl _) _⟩
  · have hb : decide (16 ≤ b) = false := decide_eq_false h0
    have HD := hide_ (show (decide (16 ≤ b) || !(inB c 0 31)) = !(inB c 0 31) by simp [h0])
    clear h0
    go_enter Try.func73, Try.ntmps73
    go_wp2_with fail
    refine (withinInt_any _ _ _ _).mono ?_
    rintro en w1 ⟨rfl, rfl⟩
    go_wp2
    go_ret
    exact ⟨ret_boolT HD.out.symm, (Below.refl _ _).alloc (Nat.le_refl _) _⟩
theorem mayNotM_any (x : MrkM) (w : World) : Calls Try.prog 77 #[mrkV x] w fun e w' => e = .returned (.bool (decide (x.2.1 = 0) || decide (x.2.2 = 0))) ∧ Below w.heap.size w w' := by
  obtain ⟨a, b, c⟩ := x
  simp only [mrkV]
  by_cases h0 : b = 0
  · have hb : (b == 0) = true := by simp [h0]
    have HD := hide_ (show (decide (b = 0) || decide (c = 0)) = true by simp [h0])
    clear h0
    go_enter Try.func77, Try.ntmps77
    go_wp2
    go_ret
    exact ⟨ret_boolT HD.out.symm, (Below.refl _ _).alloc (Nat.le_refl _) _⟩
  · have hb : (b == 0) = false := beq_eq_false_iff_ne.2 h0
    have HD := hide_ (show (decide (b = 0) || decide (c = 0)) = (c == 0) by rw [decide_eq_false h0, Bool.false_or, Bool.eq_iff_iff]; simp)
    clear h0
    go_enter Try.func77, Try.ntmps77
    go_wp2
    go_ret
    exact ⟨ret_boolT HD.out.symm, (Below.refl _ _).alloc (Nat.le_refl _) _⟩
end Go.Proofs.Ytkfejiolfkepkaa
