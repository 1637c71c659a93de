/-
  Texts of this claim put together: Tk6b, May6, May6b.
-/
import Derived.Test.YtkgnondlcaklnaaGreatJ31
import Derived.Deep.RegionHeldLaw
import Derived.IntWalk
import Derived.Test.YtkgnondlcaklnaaGreatJ28
import Derived.Test.YtkgnondlcaklnaaGreatJ29
import Derived.Test.YtkgnondlcaklnaaGreatJ30
/-
  Contracts of reg's taker: cells, marks, replies, entries.
-/
namespace Go.Proofs.YtkgnondlcaklnaaGreat
open Go.RowKit

/-- a reply -/
structure RepM where
  er : Int
  inc : Int
  st : Int
  va : IntS
def RepM.v (d : RepM) : Value := .agg #[.int .i64 d.er, .int .u64 d.inc, .int .i64 d.st, d.va.v]
def RepM.ok (w : World) (B : Nat) (d : RepM) : Prop := (I64 d.er ∧ U64 d.inc ∧ I64 d.st) ∧ intsOk w B d.va
def RepM.ft (d : RepM) : Nat → Prop := Sl.ft noFt d.va
def RepM.p (d : RepM) : RepP := (d.er, d.inc, d.st, d.va.l)
theorem rep_local : Local RepM.ok RepM.ft := fun w w' B B' x h hk hB => ⟨h.1, ints_local w w' B B' x.va h.2 hk hB⟩
theorem rep_stable : Stable RepM.ok := fun w w' B B' x h hk hB => ⟨h.1, ints_stable w w' B B' x.va h.2 hk hB⟩
theorem done_of {w : World} {B : Nat} {a b : Int} {r : RepM} (h1 : U8 a) (h2 : U64 b) (h : RepM.ok w B r) : DoneM.ok w B ⟨a, b, r.er, r.inc, r.st, r.va⟩ := ⟨⟨h1, h2, h.1⟩, h.2⟩

def varS (s : RS) : List Int × RS := manyS 1000 intS s
def repS (s : RS) : RepP × RS :=
  ((((numS 1000 s).1 : Int), ((numBig (numS 1000 s).2).1 : Int), ((numS 1000 (numBig (numS 1000 s).2).2).1 : Int), (varS (numS 1000 (numBig (numS 1000 s).2).2).2).1), (varS (numS 1000 (numBig (numS 1000 s).2).2).2).2)
def doneS (s : RS) : DoneP × RS :=
  ((((numS 255 s).1 : Int), ((numBig (numS 255 s).2).1 : Int), (repS (numBig (numS 255 s).2).2).1), (repS (numBig (numS 255 s).2).2).2)
def celS (s : RS) : CelM × RS :=
  ((((numBig s).1 : Int), ((numS 255 (numBig s).2).1 : Int), ((numS 1000 (numS 255 (numBig s).2).2).1 : Int), (intS (numS 1000 (numS 255 (numBig s).2).2).2).1), (intS (numS 1000 (numS 255 (numBig s).2).2).2).2)
def mrkS (s : RS) : MrkM × RS :=
  ((((numS 255 s).1 : Int), ((numBig (numS 255 s).2).1 : Int), ((numBig (numBig (numS 255 s).2).2).1 : Int)), (numBig (numBig (numS 255 s).2).2).2)
theorem varS_ok {s : RS} (h : RSok s) : RSok (varS s).2 := manyS_ok (fun _ h => (intS_ok h).1) h
theorem repS_ok {s : RS} (h : RSok s) : RSok (repS s).2 := varS_ok (numS_ok (numBig_ok (numS_ok h).1).1).1
theorem doneS_ok {s : RS} (h : RSok s) : RSok (doneS s).2 := repS_ok (numBig_ok (numS_ok h).1).1
theorem celS_ok {s : RS} (h : RSok s) : RSok (celS s).2 := (intS_ok (numS_ok (numS_ok (numBig_ok h).1).1).1).1
theorem mrkS_ok {s : RS} (h : RSok s) : RSok (mrkS s).2 := (numBig_ok (numBig_ok (numS_ok h).1).1).1

set_option maxRecDepth 100000 in
/-- many whole numbers, by the reader's own method -/
theorem intsOf6_any {g : Nat} {s : RS} {w : World} (h : Rdr w g s.1 s.2) (hs : RSok s) : Calls Tryz.prog 165 #[takerV g, .func (.func 166) #[.pointer (some ⟨g, 0, none⟩)] #[]] w (PartR Sl.v (fun x => x.l) intsOk (Sl.ft noFt) w g (varS s)) := by
  refine (manyInt6_any id 166 #[.pointer (some ⟨g, 0, none⟩)] #[] intS h hs (fun _ h => (intS_ok h).1) (fun _ _ => rfl) (fun w1 s1 _ hr hs1 => (Int_st hr hs1).mono ?_)).mono ?_
  · rintro en w2 ⟨rfl, hr2, hg2⟩
    exact ⟨(intS s1).1, rfl, rfl, (intS_ok hs1).2, fun _ h => h.elim, hr2, hg2⟩
  · rintro en w2 ⟨x, rfl, hp, ho, hl, hr, hg⟩
    exact ⟨x, rfl, by rw [← show x.l.map id = (varS s).1 from hp, List.map_id], ho, hl, hr, hg⟩

end Go.Proofs.YtkgnondlcaklnaaGreat

/-
  Contracts of reg's functions that tell which registers may be, but for May.
-/
namespace Go.Proofs.YtkgnondlcaklnaaGreat
open Go.RowKit

theorem mayState_any (st : Int) (A : Option Addr) (va : List Int) (n c : Nat) (hn : va.length = n) (hm : n ≤ 9223372036854775807) (w : World) : Calls Tryz.prog 129 #[.int .i64 st, .slice A n c] w fun e w' => e = .returned (.bool (staB st va)) ∧ w = w' := by
  have HR := hide_ (show staB st va = (inB st 0 31 && decide (n ≤ 8)) by unfold staB; rw [hn])
  rw [HR.out]
  clear hn
  cases h : inB st 0 31 with
  | false =>
    have HI := hide_ h
    clear h
    go_enter Tryz.func129, Tryz.ntmps129
    go_wp2_with fail
    refine (withinInt_any _ _ _ _).mono ?_
    rw [HI.out]
    rintro en w1 ⟨rfl, rfl⟩
    go_wp2
    go_ret
    exact ⟨rfl, rfl⟩
  | true =>
    have HI := hide_ h
    clear h
    by_cases h8 : n ≤ 8
    · have hd : decide ((n : Int) ≤ 8) = true := decide_eq_true (by omega)
      have HD := hide_ (show (true && decide (n ≤ 8)) = true by simp [h8])
      clear h8
      go_enter Tryz.func129, Tryz.ntmps129
      go_wp2_with fail
      refine (withinInt_any _ _ _ _).mono ?_
      rw [HI.out]
      rintro en w1 ⟨rfl, rfl⟩
      go_wp2
      go_ret
      exact ⟨ret_boolT HD.out.symm, rfl⟩
    · have hd : decide ((n : Int) ≤ 8) = false := decide_eq_false (by omega)
      have HD := hide_ (show (true && decide (n ≤ 8)) = false by simp [h8])
      clear h8
      go_enter Tryz.func129, Tryz.ntmps129
      go_wp2_with fail
      refine (withinInt_any _ _ _ _).mono ?_
      rw [HI.out]
      rintro en w1 ⟨rfl, rfl⟩
      go_wp2
      go_ret
      exact ⟨ret_boolT HD.out.symm, rfl⟩

theorem mayReply_any (r : RepM) (hm : r.va.l.length ≤ 9223372036854775807) (w : World) : Calls Tryz.prog 177 #[r.v] w fun e w' => e = .returned (.bool (repB r.p)) ∧ Below w.heap.size w w' := by
  obtain ⟨er, inc, st, ⟨A, c, va⟩⟩ := r
  obtain ⟨n, hn⟩ : ∃ n, va.length = n := ⟨_, rfl⟩
  simp only [hn] at hm
  have HS := hide_ (fun u => mayState_any st A va n c hn hm u)
  simp only [RepM.v, Sl.v, RepM.p, hn]
  clear hn
  have HR := hide_ (show repB (er, inc, st, va) = (inB er 0 99 && staB st va) from rfl)
  rw [HR.out]
  clear HR
  cases h : inB er 0 99 with
  | false =>
    have HI := hide_ h
    clear h
    go_enter Tryz.func177, Tryz.ntmps177
    go_wp2_with fail
    refine (withinErr_any _ _ _ _).mono ?_
    rw [HI.out]
    rintro en w1 ⟨rfl, rfl⟩
    go_wp2
    go_ret
    exact ⟨rfl, (Below.refl _ _).alloc (Nat.le_refl _) _⟩
  | true =>
    have HI := hide_ h
    clear h
    obtain ⟨q, hq⟩ : ∃ q, staB st va = q := ⟨_, rfl⟩
    simp only [hq] at HS
    rw [hq]
    clear hq
    go_enter Tryz.func177, Tryz.ntmps177
    go_wp2_with fail
    refine (withinErr_any _ _ _ _).mono ?_
    rw [HI.out]
    rintro en w1 ⟨rfl, rfl⟩
    go_wp2_with fail
    refine (HS.out _).mono ?_
    rintro en w2 ⟨rfl, rfl⟩
    go_wp2
    go_ret
    exact ⟨by simp, (Below.refl _ _).alloc (Nat.le_refl _) _⟩

theorem numD_any (x : DoneM) (hx : U8 x.cl) (w : World) : Calls Tryz.prog 175 #[x.v] w fun e w' => e = .returned (.int .u64 x.cl) ∧ Below w.heap.size w w' := by
  obtain ⟨cl, sq, er, inc, st, ⟨vA, vc, vl⟩⟩ := x
  obtain ⟨h1, h2⟩ := hx
  simp only at h1 h2
  simp only [DoneM.v, Sl.v]
  go_enter Tryz.func175, Tryz.ntmps175
  go_wp2
  go_ret
  exact ⟨rfl, (Below.refl _ _).alloc (Nat.le_refl _) _⟩
theorem numC_any (x : CelM) (w : World) : Calls Tryz.prog 180 #[celV x] w fun e w' => e = .returned (.int .u64 x.1) ∧ Below w.heap.size w w' := by
  obtain ⟨a, b, c, d⟩ := x
  simp only [celV]
  go_enter Tryz.func180, Tryz.ntmps180
  go_wp2
  go_ret
  exact ⟨rfl, (Below.refl _ _).alloc (Nat.le_refl _) _⟩
theorem numM_any (x : MrkM) (hx : U8 x.1) (w : World) : Calls Tryz.prog 184 #[mrkV x] w fun e w' => e = .returned (.int .u64 x.1) ∧ Below w.heap.size w w' := by
  obtain ⟨a, b, c⟩ := x
  obtain ⟨h1, h2⟩ := hx
  simp only at h1 h2
  simp only [mrkV]
  go_enter Tryz.func184, Tryz.ntmps184
  go_wp2
  go_ret
  exact ⟨rfl, (Below.refl _ _).alloc (Nat.le_refl _) _⟩

theorem mayNotD_any (x : DoneM) (hm : x.va.l.length ≤ 9223372036854775807) (w : World) : Calls Tryz.prog 176 #[x.v] w fun e w' => e = .returned (.bool (decide (x.sq = 0) || !(repB x.p.2.2))) ∧ Below w.heap.size w w' := by
  obtain ⟨cl, sq, er, inc, st, ⟨vA, vc, vl⟩⟩ := x
  have HC := hide_ (fun u => mayReply_any ⟨er, inc, st, ⟨vA, vc, vl⟩⟩ hm u)
  simp only [RepM.v, Sl.v, RepM.p] at HC
  simp only [DoneM.v, Sl.v, DoneM.p]
  obtain ⟨q, hq⟩ : ∃ q, repB (er, inc, st, vl) = q := ⟨_, rfl⟩
  simp only [hq] at HC ⊢
  clear hq hm
  by_cases h0 : sq = 0
  · have hb : (sq == 0) = true := by simp [h0]
    have HD := hide_ (show (decide (sq = 0) || !q) = true by simp [h0])
    clear h0
    go_enter Tryz.func176, Tryz.ntmps176
    go_wp2
    go_ret
    exact ⟨ret_boolT HD.out.symm, (Below.refl _ _).alloc (Nat.le_refl _) _⟩
  · have hb : (sq == 0) = false := beq_eq_false_iff_ne.2 h0
    have HD := hide_ (show (decide (sq = 0) || !q) = !q by simp [h0])
    clear h0
    go_enter Tryz.func176, Tryz.ntmps176
    go_wp2_with fail
    refine (HC.out _).mono ?_
    rintro en w1 ⟨rfl, hb1⟩
    have HB1 := hide_ (((Below.refl w.heap.size w).alloc (Nat.le_refl _) _).trans (hb1.mono (by simp)))
    clear hb1
    go_wp2
    go_ret
    exact ⟨ret_boolT HD.out.symm, HB1.out⟩
theorem mayNotC_any (x : CelM) (w : World) : Calls Tryz.prog 181 #[celV x] w fun e w' => e = .returned (.bool (decide (16 ≤ x.2.1) || !(inB x.2.2.1 0 31))) ∧ Below w.heap.size w w' := by
  obtain ⟨a, b, c, d⟩ := x
  simp only [celV]
  by_cases h0 : 16 ≤ b
  · have hb : decide (16 ≤ b) = true := decide_eq_true h0
    have HD := hide_ (show (decide (16 ≤ b) || !(inB c 0 31)) = true by simp [h0])
    clear h0
    go_enter Tryz.func181, Tryz.ntmps181
    go_wp2
    go_ret
    exact ⟨ret_boolT HD.out.symm, (Below.refl _ _).alloc (Nat.le_refl _) _⟩
  · have hb : decide (16 ≤ b) = false := decide_eq_false h0
    have HD := hide_ (show (decide (16 ≤ b) || !(inB c 0 31)) = !(inB c 0 31) by simp [h0])
    clear h0
    go_enter Tryz.func181, Tryz.ntmps181
    go_wp2_with fail
    refine (withinInt_any _ _ _ _).mono ?_
    rintro en w1 ⟨rfl, rfl⟩
    go_wp2
    go_ret
    exact ⟨ret_boolT HD.out.symm, (Below.refl _ _).alloc (Nat.le_refl _) _⟩
theorem mayNotM_any (x : MrkM) (w : World) : Calls Tryz.prog 185 #[mrkV x] w fun e w' => e = .returned (.bool (decide (x.2.1 = 0) || decide (x.2.2 = 0))) ∧ Below w.heap.size w w' := by
  obtain ⟨a, b, c⟩ := x
  simp only [mrkV]
  by_cases h0 : b = 0
  · have hb : (b == 0) = true := by simp [h0]
    have HD := hide_ (show (decide (b = 0) || decide (c = 0)) = true by simp [h0])
    clear h0
    go_enter Tryz.func185, Tryz.ntmps185
    go_wp2
    go_ret
    exact ⟨ret_boolT HD.out.symm, (Below.refl _ _).alloc (Nat.le_refl _) _⟩
  · have hb : (b == 0) = false := beq_eq_false_iff_ne.2 h0
    have HD := hide_ (show (decide (b = 0) || decide (c = 0)) = (c == 0) by rw [decide_eq_false h0, Bool.false_or, Bool.eq_iff_iff]; simp)
    clear h0
    go_enter Tryz.func185, Tryz.ntmps185
    go_wp2
    go_ret
    exact ⟨ret_boolT HD.out.symm, (Below.refl _ _).alloc (Nat.le_refl _) _⟩
end Go.Proofs.YtkgnondlcaklnaaGreat

/-
  Contracts of reg's mayDone, mayOut, mayMarks, mayStand.
-/
namespace Go.Proofs.YtkgnondlcaklnaaGreat
open Go.RowKit

theorem sl_len {α : Type} {cs : α → List Value} {p : World → Nat → α → Prop} {w : World} {B : Nat} {s : Sl α} (h : Sl.ok cs p w B s) : s.l.length ≤ 9223372036854775807 := by
  have h3 := h.1
  have h4 := h.2.1
  unfold maxLen at h4
  omega

set_option maxRecDepth 100000 in
theorem mayDone_any (s : Sl DoneM) (B : Nat) (w : World) (hs : dnsOk w B s) (hB : B ≤ w.heap.size) : Calls Tryz.prog 130 #[s.v] w fun e w' => e = .returned (.bool (dnsB (s.l.map DoneM.p))) ∧ Below B w w' := by
  have HR := hide_ (risesDone_any 175 1 8 s B w hs hB (fun _ _ => rfl) (fun x wr hx => numD_any x (hs.2.2.2 x hx).1.1 wr))
  have HC := hide_ (fun (u : World) (hb : Below B w u) => containsDone_any (dnX (s.l.map DoneM.p)) (fun _ _ => True) 176 #[] s B u (dns_stable.below hs hb) (Nat.le_trans hB hb.size) trivial (fun _ _ => rfl) (fun k x wr hx hb2 _ => by
    show Calls Tryz.prog 176 #[DoneM.v x] wr _
    refine (mayNotD_any x (sl_len (hs.2.2.2 x (List.mem_of_getElem? hx)).2) wr).mono ?_
    rintro en w2 ⟨rfl, hb3⟩
    exact ⟨ret_boolT (by rw [dnX_at (d := x.p) (by rw [List.getElem?_map, hx]; rfl)]; rfl), fun _ => trivial, hb3.mono (Nat.le_trans (Nat.le_trans hB hb.size) hb2.size)⟩))
  have HD := hide_ (show dnsB (s.l.map DoneM.p) = (risB (s.l.map (fun x => x.cl)) 1 8 && !(anyB (dnX (s.l.map DoneM.p)) s.l.length)) by
    unfold dnsB
    rw [List.map_map, List.length_map]
    rfl)
  rw [HD.out]
  obtain ⟨q1, h1⟩ : ∃ q, risB (s.l.map (fun x => x.cl)) 1 8 = q := ⟨_, rfl⟩
  obtain ⟨q2, h2⟩ : ∃ q, anyB (dnX (s.l.map DoneM.p)) s.l.length = q := ⟨_, rfl⟩
  simp only [h1] at HR ⊢
  simp only [h2] at HC ⊢
  clear HD h1 h2 hs
  simp only [Sl.v] at HR HC ⊢
  go_enter Tryz.func130, Tryz.ntmps130
  go_wp2_with fail
  refine HR.out.mono ?_
  rintro en w1 ⟨rfl, hb1⟩
  cases q1 with
  | false =>
    go_wp2
    go_ret
    exact ⟨rfl, hb1⟩
  | true =>
    have HB1 := hide_ hb1
    clear hb1
    go_wp2_with fail
    refine (HC.out _ HB1.out).mono ?_
    rintro en w2 ⟨rfl, hb2⟩
    have HB2 := hide_ (HB1.out.trans hb2)
    clear hb2
    go_wp2
    go_ret
    exact ⟨by simp, HB2.out⟩

set_option maxRecDepth 100000 in
theorem mayMarks_any (s : Sl MrkM) (B : Nat) (w : World) (hs : mrksOk w B s) (hB : B ≤ w.heap.size) : Calls Tryz.prog 132 #[s.v] w fun e w' => e = .returned (.bool (mksB s.l)) ∧ Below B w w' := by
  have HR := hide_ (risesMark_any 184 0 15 s B w hs hB (fun _ _ => rfl) (fun x wr hx => numM_any x (hs.2.2.2 x hx).1 wr))
  have HC := hide_ (fun (u : World) (hb : Below B w u) => containsMark_any (mkX s.l) (fun _ _ => True) 185 #[] s B u (mrks_stable.below hs hb) (Nat.le_trans hB hb.size) trivial (fun _ _ => rfl) (fun k x wr hx hb2 _ => by
    show Calls Tryz.prog 185 #[mrkV x] wr _
    refine (mayNotM_any x wr).mono ?_
    rintro en w2 ⟨rfl, hb3⟩
    exact ⟨ret_boolT (by rw [mkX_at hx]), fun _ => trivial, hb3.mono (Nat.le_trans (Nat.le_trans hB hb.size) hb2.size)⟩))
  have HD := hide_ (show mksB s.l = (risB (s.l.map (fun x => x.1)) 0 15 && !(anyB (mkX s.l) s.l.length)) from rfl)
  rw [HD.out]
  obtain ⟨q1, h1⟩ : ∃ q, risB (s.l.map (fun x => x.1)) 0 15 = q := ⟨_, rfl⟩
  obtain ⟨q2, h2⟩ : ∃ q, anyB (mkX s.l) s.l.length = q := ⟨_, rfl⟩
  simp only [h1] at HR ⊢
  simp only [h2] at HC ⊢
  clear HD h1 h2 hs
  simp only [Sl.v] at HR HC ⊢
  go_enter Tryz.func132, Tryz.ntmps132
  go_wp2_with fail
  refine HR.out.mono ?_
  rintro en w1 ⟨rfl, hb1⟩
  cases q1 with
  | false =>
    go_wp2
    go_ret
    exact ⟨rfl, hb1⟩
  | true =>
    have HB1 := hide_ hb1
    clear hb1
    go_wp2_with fail
    refine (HC.out _ HB1.out).mono ?_
    rintro en w2 ⟨rfl, hb2⟩
    have HB2 := hide_ (HB1.out.trans hb2)
    clear hb2
    go_wp2
    go_ret
    exact ⟨by simp, HB2.out⟩

set_option maxRecDepth 100000 in
theorem mayOut_any (s : Sl CelM) (la : Int) (B : Nat) (w : World) (hs : celsOk w B s) (hB : B ≤ w.heap.size) : Calls Tryz.prog 131 #[s.v, .int .u64 la] w fun e w' => e = .returned (.bool (ousB s.l la)) ∧ Below B w w' := by
  have HR := hide_ (risesCell_any 180 1 la s B w hs hB (fun _ _ => rfl) (fun x wr _ => numC_any x wr))
  have HC := hide_ (fun (u : World) (hb : Below B w u) => containsCell_any (ouX s.l) (fun _ _ => True) 181 #[] s B u (cels_stable.below hs hb) (Nat.le_trans hB hb.size) trivial (fun _ _ => rfl) (fun k x wr hx hb2 _ => by
    show Calls Tryz.prog 181 #[celV x] wr _
    refine (mayNotC_any x wr).mono ?_
    rintro en w2 ⟨rfl, hb3⟩
    exact ⟨ret_boolT (by rw [ouX_at hx]), fun _ => trivial, hb3.mono (Nat.le_trans (Nat.le_trans hB hb.size) hb2.size)⟩))
  have hm := sl_len hs
  have HD := hide_ (show ousB s.l la = (decide (s.l.length ≤ 8) && (risB (s.l.map (fun x => x.1)) 1 la && !(anyB (ouX s.l) s.l.length))) from rfl)
  rw [HD.out]
  obtain ⟨q1, h1⟩ : ∃ q, risB (s.l.map (fun x => x.1)) 1 la = q := ⟨_, rfl⟩
  obtain ⟨q2, h2⟩ : ∃ q, anyB (ouX s.l) s.l.length = q := ⟨_, rfl⟩
  simp only [h1] at HR ⊢
  simp only [h2] at HC ⊢
  clear HD h1 h2 hs
  obtain ⟨n, hn⟩ : ∃ n, s.l.length = n := ⟨_, rfl⟩
  simp only [Sl.v, hn] at HR HC hm ⊢
  clear hn
  by_cases h8 : n ≤ 8
  case neg =>
    have hd : decide ((n : Int) ≤ 8) = false := decide_eq_false (by omega)
    have HE := hide_ (show (decide (n ≤ 8) && (q1 && !q2)) = false by simp [h8])
    clear h8
    go_enter Tryz.func131, Tryz.ntmps131
    go_wp2
    go_ret
    exact ⟨ret_boolT HE.out.symm, Below.refl _ _⟩
  have hd : decide ((n : Int) ≤ 8) = true := decide_eq_true (by omega)
  have HE := hide_ (show (decide (n ≤ 8) && (q1 && !q2)) = (q1 && !q2) by simp [h8])
  rw [HE.out]
  clear h8 HE
  go_enter Tryz.func131, Tryz.ntmps131
  go_wp2_with fail
  refine HR.out.mono ?_
  rintro en w1 ⟨rfl, hb1⟩
  cases q1 with
  | false =>
    go_wp2
    go_ret
    exact ⟨rfl, hb1⟩
  | true =>
    have HB1 := hide_ hb1
    clear hb1
    go_wp2_with fail
    refine (HC.out _ HB1.out).mono ?_
    rintro en w2 ⟨rfl, hb2⟩
    have HB2 := hide_ (HB1.out.trans hb2)
    clear hb2
    go_wp2
    go_ret
    exact ⟨by simp, HB2.out⟩

/-- a register's box -/
def RegM.box (r : RegM) : Array Value := #[.int .u8 r.ki, .int .u64 r.inc, .int .i64 r.st, .slice r.va.A r.va.l.length r.va.c, .slice r.dn.A r.dn.l.length r.dn.c, .slice r.ou.A r.ou.l.length r.ou.c, .int .u64 r.la, .slice r.ma.A r.ma.l.length r.ma.c]

set_option maxRecDepth 100000 in
set_option maxHeartbeats 3200000 in
theorem mayStand_any6 (r : RegM) (B : Nat) (w : World) (hr : RegM.ok w B r) (hB : B ≤ w.heap.size) : Calls Tryz.prog 97 #[r.v] w fun e w' => e = .returned (.bool (stnB r.p)) ∧ Below B w w' := by
  have HW := hide_ (show Below B w (w.alloc (.cells r.box 31)) from (Below.refl _ _).alloc hB _)
  have HX := hide_ (BoxAt.new w r.box 31)
  have HS := hide_ (fun (u : World) => mayState_any r.st r.va.A r.va.l r.va.l.length r.va.c rfl (sl_len hr.2.1) u)
  have HD := hide_ (fun (u : World) (hb : Below B w u) => mayDone_any r.dn u.heap.size u (dns_stable.more (dns_stable.below hr.2.2.1 hb) (Nat.le_trans hB hb.size)) (Nat.le_refl _))
  have HO := hide_ (fun (u : World) (hb : Below B w u) => mayOut_any r.ou r.la u.heap.size u (cels_stable.more (cels_stable.below hr.2.2.2.1 hb) (Nat.le_trans hB hb.size)) (Nat.le_refl _))
  have HM := hide_ (fun (u : World) (hb : Below B w u) => mayMarks_any r.ma u.heap.size u (mrks_stable.more (mrks_stable.below hr.2.2.2.2 hb) (Nat.le_trans hB hb.size)) (Nat.le_refl _))
  have HP := hide_ (show stnB r.p = (!(decide (r.inc = 0)) && (staB r.st r.va.l && (dnsB (r.dn.l.map DoneM.p) && (ousB r.ou.l r.la && mksB r.ma.l)))) from rfl)
  rw [HP.out]
  obtain ⟨q1, h1⟩ : ∃ q, staB r.st r.va.l = q := ⟨_, rfl⟩
  obtain ⟨q2, h2⟩ : ∃ q, dnsB (r.dn.l.map DoneM.p) = q := ⟨_, rfl⟩
  obtain ⟨q3, h3⟩ : ∃ q, ousB r.ou.l r.la = q := ⟨_, rfl⟩
  obtain ⟨q4, h4⟩ : ∃ q, mksB r.ma.l = q := ⟨_, rfl⟩
  simp only [h1] at HS ⊢
  simp only [h2] at HD ⊢
  simp only [h3] at HO ⊢
  simp only [h4] at HM ⊢
  clear HP h1 h2 h3 h4 hr
  obtain ⟨ki, inc, st, ⟨vA, vc, vl⟩, ⟨dA, dc, dl⟩, ⟨oA, oc, ol⟩, la, ⟨mA, mc, ml⟩⟩ := r
  simp only [RegM.v, RegM.box, Sl.v] at HS HD HO HM HW HX ⊢
  by_cases hi : inc = 0
  · have hd : (inc != 0) = false := by simp [hi]
    have HE := hide_ (show (!(decide (inc = 0)) && (q1 && (q2 && (q3 && q4)))) = false by simp [hi])
    clear hi
    go_enter Tryz.func97, Tryz.ntmps97
    go_wp2
    go_ret
    exact ⟨ret_boolT HE.out.symm, HW.out⟩
  have hd : (inc != 0) = true := by simp [hi]
  have HE := hide_ (show (!(decide (inc = 0)) && (q1 && (q2 && (q3 && q4)))) = (q1 && (q2 && (q3 && q4))) by simp [hi])
  rw [HE.out]
  clear hi HE
  go_enter Tryz.func97, Tryz.ntmps97
  go_wp2_with fail
  refine (HS.out _).mono ?_
  rintro en w1 ⟨rfl, rfl⟩
  cases q1 with
  | false =>
    go_wp2
    go_ret
    exact ⟨rfl, HW.out⟩
  | true =>
  go_wp2_with fail
  refine (HD.out _ HW.out).mono ?_
  rintro en w2 ⟨rfl, hb2⟩
  have HB2 := hide_ (HW.out.trans (hb2.mono (Nat.le_trans hB HW.out.size)))
  have HX2 := hide_ (HX.out.below hb2)
  clear hb2
  have hz2 : w.heap.size < w2.heap.size := HX2.out.lt
  have hcx := HX2.out.cell
  cases q2 with
  | false =>
    go_wp2
    go_ret
    exact ⟨rfl, HB2.out⟩
  | true =>
  go_wp2_with fail
  refine (HO.out _ HB2.out).mono ?_
  rintro en w3 ⟨rfl, hb3⟩
  have HB3 := hide_ (HB2.out.trans (hb3.mono (Nat.le_trans hB HB2.out.size)))
  have HX3 := hide_ (HX2.out.below hb3)
  clear hb3
  clear hcx
  have hz3 : w.heap.size < w3.heap.size := HX3.out.lt
  have hcx := HX3.out.cell
  cases q3 with
  | false =>
    go_wp2
    go_ret
    exact ⟨rfl, HB3.out⟩
  | true =>
  go_wp2_with fail
  refine (HM.out _ HB3.out).mono ?_
  rintro en w4 ⟨rfl, hb4⟩
  have HB4 := hide_ (HB3.out.trans (hb4.mono (Nat.le_trans hB HB3.out.size)))
  have HX4 := hide_ (HX3.out.below hb4)
  clear hb4
  clear hcx
  go_wp2
  go_ret
  exact ⟨by simp, HB4.out⟩
end Go.Proofs.YtkgnondlcaklnaaGreat
