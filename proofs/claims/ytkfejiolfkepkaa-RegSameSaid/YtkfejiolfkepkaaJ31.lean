/-
  Texts of this claim put together: May6b, RefMay6.
-/
import Derived.Test.YtkfejiolfkepkaaJ30
import Derived.Test.YtkfejiolfkepkaaJ19
/-
  Contracts of reg's mayDone, mayOut, mayMarks, mayStand.
-/
namespace Go.Proofs.Ytkfejiolfkepkaa
open Go.RowKit

theorem sl_len {α : Type} {cs : α → List Value} {p : World → Nat → α → Prop} {w : World} {B : Nat} {s : Sl α} (h : Sl.ok cs p w B s) : s.l.length ≤ 9223372036854775807 := by
  have h3 := h.1
  have h4 := h.2.1
  unfold maxLen at h4
  omega

set_option maxRecDepth 100000 in
theorem mayDone_any (s : Sl DoneM) (B : Nat) (w : World) (hs : dnsOk w B s) (hB : B ≤ w.heap.size) : Calls Try.prog 49 #[s.v] w fun e w' => e = .returned (.bool (dnsB (s.l.map DoneM.p))) ∧ Below B w w' := by
  have HR := hide_ (risesDone_any 67 1 8 s B w hs hB (fun _ _ => rfl) (fun x wr hx => numD_any x (hs.2.2.2 x hx).1.1 wr))
  have HC := hide_ (fun (u : World) (hb : Below B w u) => containsDone_any (dnX (s.l.map DoneM.p)) (fun _ _ => True) 68 #[] s B u (dns_stable.below hs hb) (Nat.le_trans hB hb.size) trivial (fun _ _ => rfl) (fun k x wr hx hb2 _ => by
    show Calls Try.prog 68 #[DoneM.v x] wr _
    refine (mayNotD_any x (sl_len (hs.2.2.2 x (List.mem_of_getElem? hx)).2) wr).mono ?_
    rintro en w2 ⟨rfl, hb3⟩
    exact ⟨ret_boolT (by rw [dnX_at (d := x.p) (by rw [List.getElem?_map, hx]; rfl)]; rfl), fun _ => trivial, hb3.mono (Nat.le_trans (Nat.le_trans hB hb.size) hb2.size)⟩))
  have HD := hide_ (show dnsB (s.l.map DoneM.p) = (risB (s.l.map (fun x => x.cl)) 1 8 && !(anyB (dnX (s.l.map DoneM.p)) s.l.length)) by
    unfold dnsB
    rw [List.map_map, List.length_map]
    rfl)
  rw [HD.out]
  obtain ⟨q1, h1⟩ : ∃ q, risB (s.l.map (fun x => x.cl)) 1 8 = q := ⟨_, rfl⟩
  obtain ⟨q2, h2⟩ : ∃ q, anyB (dnX (s.l.map DoneM.p)) s.l.length = q := ⟨_, rfl⟩
  simp only [h1] at HR ⊢
  simp only [h2] at HC ⊢
  clear HD h1 h2 hs
  simp only [Sl.v] at HR HC ⊢
  go_enter Try.func49, Try.ntmps49
  go_wp2_with fail
  refine HR.out.mono ?_
  rintro en w1 ⟨rfl, hb1⟩
  cases q1 with
  | false =>
    go_wp2
    go_ret
    exact ⟨rfl, hb1⟩
  | true =>
    have HB1 := hide_ hb1
    clear hb1
    go_wp2_with fail
    refine (HC.out _ HB1.out).mono ?_
    rintro en w2 ⟨rfl, hb2⟩
    have HB2 := hide_ (HB1.out.trans hb2)
    clear hb2
    go_wp2
    go_ret
    exact ⟨by simp, HB2.out⟩

set_option maxRecDepth 100000 in
theorem mayMarks_any (s : Sl MrkM) (B : Nat) (w : World) (hs : mrksOk w B s) (hB : B ≤ w.heap.size) : Calls Try.prog 51 #[s.v] w fun e w' => e = .returned (.bool (mksB s.l)) ∧ Below B w w' := by
  have HR := hide_ (risesMark_any 76 0 15 s B w hs hB (fun _ _ => rfl) (fun x wr hx => numM_any x (hs.2.2.2 x hx).1 wr))
  have HC := hide_ (fun (u : World) (hb : Below B w u) => containsMark_any (mkX s.l) (fun _ _ => True) 77 #[] s B u (mrks_stable.below hs hb) (Nat.le_trans hB hb.size) trivial (fun _ _ => rfl) (fun k x wr hx hb2 _ => by
    show Calls Try.prog 77 #[mrkV x] wr _
    refine (mayNotM_any x wr).mono ?_
    rintro en w2 ⟨rfl, hb3⟩
    exact ⟨ret_boolT (by rw [mkX_at hx]), fun _ => trivial, hb3.mono (Nat.le_trans (Nat.le_trans hB hb.size) hb2.size)⟩))
  have HD := hide_ (show mksB s.l = (risB (s.l.map (fun x => x.1)) 0 15 && !(anyB (mkX s.l) s.l.length)) from rfl)
  rw [HD.out]
  obtain ⟨q1, h1⟩ : ∃ q, risB (s.l.map (fun x => x.1)) 0 15 = q := ⟨_, rfl⟩
  obtain ⟨q2, h2⟩ : ∃ q, anyB (mkX s.l) s.l.length = q := ⟨_, rfl⟩
  simp only [h1] at HR ⊢
  simp only [h2] at HC ⊢
  clear HD h1 h2 hs
  simp only [Sl.v] at HR HC ⊢
  go_enter Try.func51, Try.ntmps51
  go_wp2_with fail
  refine HR.out.mono ?_
  rintro en w1 ⟨rfl, hb1⟩
  cases q1 with
  | false =>
    go_wp2
    go_ret
    exact ⟨rfl, hb1⟩
  | true =>
    have HB1 := hide_ hb1
    clear hb1
    go_wp2_with fail
    refine (HC.out _ HB1.out).mono ?_
    rintro en w2 ⟨rfl, hb2⟩
    have HB2 := hide_ (HB1.out.trans hb2)
    clear hb2
    go_wp2
    go_ret
    exact ⟨by simp, HB2.out⟩

set_option maxRecDepth 100000 in
theorem mayOut_any (s : Sl CelM) (la : Int) (B : Nat) (w : World) (hs : celsOk w B s) (hB : B ≤ w.heap.size) : Calls Try.prog 50 #[s.v, .int .u64 la] w fun e w' => e = .returned (.bool (ousB s.l la)) ∧ Below B w w' := by
  have HR := hide_ (risesCell_any 72 1 la s B w hs hB (fun _ _ => rfl) (fun x wr _ => numC_any x wr))
  have HC := hide_ (fun (u : World) (hb : Below B w u) => containsCell_any (ouX s.l) (fun _ _ => True) 73 #[] s B u (cels_stable.below hs hb) (Nat.le_trans hB hb.size) trivial (fun _ _ => rfl) (fun k x wr hx hb2 _ => by
    show Calls Try.prog 73 #[celV x] wr _
    refine (mayNotC_any x wr).mono ?_
    rintro en w2 ⟨rfl, hb3⟩
    exact ⟨ret_boolT (by rw [ouX_at hx]), fun _ => trivial, hb3.mono (Nat.le_trans (Nat.le_trans hB hb.size) hb2.size)⟩))
  have hm := sl_len hs
  have HD := hide_ (show ousB s.l la = (decide (s.l.length ≤ 8) && (risB (s.l.map (fun x => x.1)) 1 la && !(anyB (ouX s.l) s.l.length))) from rfl)
  rw [HD.out]
  obtain ⟨q1, h1⟩ : ∃ q, risB (s.l.map (fun x => x.1)) 1 la = q := ⟨_, rfl⟩
  obtain ⟨q2, h2⟩ : ∃ q, anyB (ouX s.l) s.l.length = q := ⟨_, rfl⟩
  simp only [h1] at HR ⊢
  simp only [h2] at HC ⊢
  clear HD h1 h2 hs
  obtain ⟨n, hn⟩ : ∃ n, s.l.length = n := ⟨_, rfl⟩
  simp only [Sl.v, hn] at HR HC hm ⊢
  clear hn
  by_cases h8 : n ≤ 8
  case neg =>
    have hd : decide ((n : Int) ≤ 8) = false := decide_eq_false (by omega)
    have HE := hide_ (show (decide (n ≤ 8) && (q1 && !q2)) = false by simp [h8])
    clear h8
    go_enter Try.func50, Try.ntmps50
    go_wp2
    go_ret
    exact ⟨ret_boolT HE.out.symm, Below.refl _ _⟩
  have hd : decide ((n : Int) ≤ 8) = true := decide_eq_true (by omega)
  have HE := hide_ (show (decide (n ≤ 8) && (q1 && !q2)) = (q1 && !q2) by simp [h8])
  rw [HE.out]
  clear h8 HE
  go_enter Try.func50, Try.ntmps50
  go_wp2_with fail
  refine HR.out.mono ?_
  rintro en w1 ⟨rfl, hb1⟩
  cases q1 with
  | false =>
    go_wp2
    go_ret
    exact ⟨rfl, hb1⟩
  | true =>
    have HB1 := hide_ hb1
    clear hb1
    go_wp2_with fail
    refine (HC.out _ HB1.out).mono ?_
    rintro en w2 ⟨rfl, hb2⟩
    have HB2 := hide_ (HB1.out.trans hb2)
    clear hb2
    go_wp2
    go_ret
    exact ⟨by simp, HB2.out⟩

/-- a register's box -/
def RegM.box (r : RegM) : Array Value := #[.int .u8 r.ki, .int .u64 r.inc, .int .i64 r.st, .slice r.va.A r.va.l.length r.va.c, .slice r.dn.A r.dn.l.length r.dn.c, .slice r.ou.A r.ou.l.length r.ou.c, .int .u64 r.la, .slice r.ma.A r.ma.l.length r.ma.c]

set_option maxRecDepth 100000 in
set_option maxHeartbeats 3200000 in
theorem mayStand_any6 (r : RegM) (B : Nat) (w : World) (hr : RegM.ok w B r) (hB : B ≤ w.heap.size) : Calls Try.prog 27 #[r.v] w fun e w' => e = .returned (.bool (stnB r.p)) ∧ Below B w w' := by
  have HW := hide_ (show Below B w (w.alloc (.cells r.box 29)) from (Below.refl _ _).alloc hB _)
  have HX := hide_ (BoxAt.new w r.box 29)
  have HS := hide_ (fun (u : World) => mayState_any r.st r.va.A r.va.l r.va.l.length r.va.c rfl (sl_len hr.2.1) u)
  have HD := hide_ (fun (u : World) (hb : Below B w u) => mayDone_any r.dn u.heap.size u (dns_stable.more (dns_stable.below hr.2.2.1 hb) (Nat.le_trans hB hb.size)) (Nat.le_refl _))
  have HO := hide_ (fun (u : World) (hb : Below B w u) => mayOut_any r.ou r.la u.heap.size u (cels_stable.more (cels_stable.below hr.2.2.2.1 hb) (Nat.le_trans hB hb.size)) (Nat.le_refl _))
  have HM := hide_ (fun (u : World) (hb : Below B w u) => mayMarks_any r.ma u.heap.size u (mrks_stable.more (mrks_stable.below hr.2.2.2.2 hb) (Nat.le_trans hB hb.size)) (Nat.le_refl _))
  have HP := hide_ (show stnB r.p = (!(decide (r.inc = 0)) && (staB r.st r.va.l && (dnsB (r.dn.l.map DoneM.p) && (ousB r.ou.l r.la && mksB r.ma.l)))) from rfl)
  rw [HP.out]
  obtain ⟨q1, h1⟩ : ∃ q, staB r.st r.va.l = q := ⟨_, rfl⟩
  obtain ⟨q2, h2⟩ : ∃ q, dnsB (r.dn.l.map DoneM.p) = q := ⟨_, rfl⟩
  obtain ⟨q3, h3⟩ : ∃ q, ousB r.ou.l r.la = q := ⟨_, rfl⟩
  obtain ⟨q4, h4⟩ : ∃ q, mksB r.ma.l = q := ⟨_, rfl⟩
  simp only [h1] at HS ⊢
  simp only [h2] at HD ⊢
  simp only [h3] at HO ⊢
  simp only [h4] at HM ⊢
  clear HP h1 h2 h3 h4 hr
  obtain ⟨ki, inc, st, ⟨vA, vc, vl⟩, ⟨dA, dc, dl⟩, ⟨oA, oc, ol⟩, la, ⟨mA, mc, ml⟩⟩ := r
  simp only [RegM.v, RegM.box, Sl.v] at HS HD HO HM HW HX ⊢
  by_cases hi : inc = 0
  · have hd : (inc != 0) = false := by simp [hi]
    have HE := hide_ (show (!(decide (inc = 0)) && (q1 && (q2 && (q3 && q4)))) = false by simp [hi])
    clear hi
    go_enter Try.func27, Try.ntmps27
    go_wp2
    go_ret
    exact ⟨ret_boolT HE.out.symm, HW.out⟩
  have hd : (inc != 0) = true := by simp [hi]
  have HE := hide_ (show (!(decide (inc = 0)) && (q1 && (q2 && (q3 && q4)))) = (q1 && (q2 && (q3 && q4))) by simp [hi])
  rw [HE.out]
  clear hi HE
  go_enter Try.func27, Try.ntmps27
  go_wp2_with fail
  refine (HS.out _).mono ?_
  rintro en w1 ⟨rfl, rfl⟩
  cases q1 with
  | false =>
    go_wp2
    go_ret
    exact ⟨rfl, HW.out⟩
  | true =>
  go_wp2_with fail
  refine (HD.out _ HW.out).mono ?_
  rintro en w2 ⟨rfl, hb2⟩
  have HB2 := hide_ (HW.out.trans (hb2.mono (Nat.le_trans hB HW.out.size)))
  have HX2 := hide_ (HX.out.below hb2)
  clear hb2
  have hz2 : w.heap.size < w2.heap.size := HX2.out.lt
  have hcx := HX2.out.cell
  cases q2 with
  | false =>
    go_wp2
    go_ret
    exact ⟨rfl, HB2.out⟩
  | true =>
  go_wp2_with fail
  refine (HO.out _ HB2.out).mono ?_
  rintro en w3 ⟨rfl, hb3⟩
  have HB3 := hide_ (HB2.out.trans (hb3.mono (Nat.le_trans hB HB2.out.size)))
  have HX3 := hide_ (HX2.out.below hb3)
  clear hb3
  clear hcx
  have hz3 : w.heap.size < w3.heap.size := HX3.out.lt
  have hcx := HX3.out.cell
  cases q3 with
  | false =>
    go_wp2
    go_ret
    exact ⟨rfl, HB3.out⟩
  | true =>
  go_wp2_with fail
  refine (HM.out _ HB3.out).mono ?_
  rintro en w4 ⟨rfl, hb4⟩
  have HB4 := hide_ (HB3.out.trans (hb4.mono (Nat.le_trans hB HB3.out.size)))
  have HX4 := hide_ (HX3.out.below hb4)
  clear hb4
  clear hcx
  go_wp2
  go_ret
  exact ⟨by simp, HB4.out⟩
end Go.Proofs.Ytkfejiolfkepkaa

/-
  Contracts of layer 6's reference's reply and Great.
-/
namespace Go.Proofs.Ytkfejiolfkepkaa
open Go.RowKit

theorem refReply_any (r : RepM) (hm : r.va.l.length ≤ 9223372036854775807) (w : World) : Calls Try.prog 47 #[r.v] w fun e w' => e = .returned (.bool (repB r.p)) ∧ Below w.heap.size w w' := by
  obtain ⟨er, inc, st, ⟨A, c, va⟩⟩ := r
  obtain ⟨n, hn⟩ : ∃ n, va.length = n := ⟨_, rfl⟩
  simp only [hn] at hm
  have HR := hide_ (show repB (RepM.p ⟨er, inc, st, ⟨A, c, va⟩⟩) = (decide (0 ≤ er) && decide (er ≤ 99) && (decide (0 ≤ st) && decide (st < 32) && decide (n ≤ 8))) by
    unfold repB RepM.p staB inB
    rw [hn, show decide (st ≤ 31) = decide (st < 32) from decide_eq_decide.2 (by omega)])
  rw [HR.out]
  simp only [RepM.v, Sl.v, hn]
  have HB := hide_ ((Below.refl w.heap.size w).alloc (Nat.le_refl _) (.cells #[.int .i64 er, .int .u64 inc, .int .i64 st, .slice A n c] 43))
  clear hn HR
  by_cases h1 : 0 ≤ er
  case neg =>
    have d1 := decide_eq_false h1
    have HE := hide_ d1
    clear h1
    go_enter Try.func47, Try.ntmps47
    go_wp2
    go_ret
    exact ⟨by rw [HE.out]; simp, HB.out⟩
  have d1 := decide_eq_true h1
  have H1 := hide_ d1
  by_cases h2 : er ≤ 99
  case neg =>
    have d2 := decide_eq_false h2
    have HE := hide_ d2
    clear h1 h2
    go_enter Try.func47, Try.ntmps47
    go_wp2
    go_ret
    exact ⟨by rw [HE.out]; simp, HB.out⟩
  have d2 := decide_eq_true h2
  have H2 := hide_ d2
  by_cases h3 : 0 ≤ st
  case neg =>
    have d3 := decide_eq_false h3
    have HE := hide_ d3
    clear h1 h2 h3
    go_enter Try.func47, Try.ntmps47
    go_wp2
    go_ret
    exact ⟨by rw [HE.out]; simp, HB.out⟩
  have d3 := decide_eq_true h3
  have H3 := hide_ d3
  by_cases h4 : st < 32
  case neg =>
    have d4 := decide_eq_false h4
    have HE := hide_ d4
    clear h1 h2 h3 h4
    go_enter Try.func47, Try.ntmps47
    go_wp2
    go_ret
    exact ⟨by rw [HE.out]; simp, HB.out⟩
  have d4 := decide_eq_true h4
  have H4 := hide_ d4
  by_cases h5 : n ≤ 8
  case neg =>
    have d5 : decide ((n : Int) ≤ 8) = false := decide_eq_false (by omega)
    have HE := hide_ (decide_eq_false h5)
    clear h1 h2 h3 h4 h5
    go_enter Try.func47, Try.ntmps47
    go_wp2
    go_ret
    exact ⟨by rw [HE.out]; simp, HB.out⟩
  have d5 : decide ((n : Int) ≤ 8) = true := decide_eq_true (by omega)
  have H5 := hide_ (decide_eq_true h5)
  clear h1 h2 h3 h4 h5
  go_enter Try.func47, Try.ntmps47
  go_wp2
  go_ret
  exact ⟨by rw [H1.out, H2.out, H3.out, H4.out, H5.out]; simp, HB.out⟩

/-- what Great leaves: with no, the lists have room -/
def SomeG (r : RegM) (w : World) (e : Ending) (w' : World) : Prop := ∃ b : Bool, e = .returned (.bool b) ∧ Below w.heap.size w w' ∧ (b = false → r.va.l.length ≤ 50 ∧ r.dn.l.length ≤ 50 ∧ r.ou.l.length ≤ 50 ∧ r.ma.l.length ≤ 50 ∧ ∀ d ∈ r.dn.l, d.va.l.length ≤ 50)

theorem someG_mk {r : RegM} {w w' : World} {e : Ending} (b : Bool) (h1 : e = .returned (.bool b)) (h2 : Below w.heap.size w w') (h3 : b = false → r.va.l.length ≤ 50 ∧ r.dn.l.length ≤ 50 ∧ r.ou.l.length ≤ 50 ∧ r.ma.l.length ≤ 50 ∧ ∀ d ∈ r.dn.l, d.va.l.length ≤ 50) : SomeG r w e w' := ⟨b, h1, h2, h3⟩

set_option maxRecDepth 100000 in
set_option maxHeartbeats 3200000 in
theorem GreatG_any (r : RegM) (B : Nat) (w : World) (hr : RegM.ok w B r) (hB : B ≤ w.heap.size) : Calls Try.prog 6 #[r.v] w (SomeG r w) := by
  have HX := hide_ (BoxAt.new w r.box 29)
  have HW := hide_ ((Below.refl w.heap.size w).alloc (Nat.le_refl _) (.cells r.box 29))
  have HD := hide_ hr.2.2.1
  have m1 := sl_len hr.2.1
  have m2 := sl_len hr.2.2.1
  have m3 := sl_len hr.2.2.2.1
  have m4 := sl_len hr.2.2.2.2
  clear hr
  obtain ⟨ki, inc, st, ⟨vA, vc, vl⟩, ⟨dA, dc, dl⟩, ⟨oA, oc, ol⟩, la, ⟨mA, mc, ml⟩⟩ := r
  obtain ⟨nv, hnv⟩ : ∃ n, vl.length = n := ⟨_, rfl⟩
  obtain ⟨nd, hnd⟩ : ∃ n, dl.length = n := ⟨_, rfl⟩
  obtain ⟨no, hno⟩ : ∃ n, ol.length = n := ⟨_, rfl⟩
  obtain ⟨nm, hnm⟩ : ∃ n, ml.length = n := ⟨_, rfl⟩
  simp only [RegM.v, RegM.box, Sl.v, hnv, hnd, hno, hnm] at HX HW m1 m2 m3 m4 ⊢
  have HND := hide_ hnd
  have HNV := hide_ hnv
  have HNO := hide_ hno
  have HNM := hide_ hnm
  clear hnv hno hnm hnd
  by_cases c1 : 50 < nv
  · have d1 : decide (50 < (nv : Int)) = true := decide_eq_true (by omega)
    clear c1
    go_enter Try.func6, Try.ntmps6
    go_wp2
    go_ret
    exact someG_mk true rfl HW.out (fun h => by cases h)
  have d1 : decide (50 < (nv : Int)) = false := decide_eq_false (by omega)
  by_cases c2 : 50 < nd
  · have d2 : decide (50 < (nd : Int)) = true := decide_eq_true (by omega)
    clear c1 c2
    go_enter Try.func6, Try.ntmps6
    go_wp2
    go_ret
    exact someG_mk true rfl HW.out (fun h => by cases h)
  have d2 : decide (50 < (nd : Int)) = false := decide_eq_false (by omega)
  by_cases c3 : 50 < no
  · have d3 : decide (50 < (no : Int)) = true := decide_eq_true (by omega)
    clear c1 c2 c3
    go_enter Try.func6, Try.ntmps6
    go_wp2
    go_ret
    exact someG_mk true rfl HW.out (fun h => by cases h)
  have d3 : decide (50 < (no : Int)) = false := decide_eq_false (by omega)
  by_cases c4 : 50 < nm
  · have d4 : decide (50 < (nm : Int)) = true := decide_eq_true (by omega)
    clear c1 c2 c3 c4
    go_enter Try.func6, Try.ntmps6
    go_wp2
    go_ret
    exact someG_mk true rfl HW.out (fun h => by cases h)
  have d4 : decide (50 < (nm : Int)) = false := decide_eq_false (by omega)
  have hle : nv ≤ 50 ∧ nd ≤ 50 ∧ no ≤ 50 ∧ nm ≤ 50 := by omega
  have HLE := hide_ hle
  have hnd50 : nd ≤ 50 := hle.2.1
  clear c1 c2 c3 c4 hle
  go_enter Try.func6, Try.ntmps6
  go_wp2
  go_loopw [29] (fun i wr => ∃ k : Nat, k ≤ nd ∧ i = .int .i64 k ∧ Hid (∀ j d, j < k → dl[j]? = some d → d.va.l.length ≤ 50) ∧ Below w.heap.size w wr ∧ Hid (BoxAt wr w.heap.size #[.int .u8 ki, .int .u64 inc, .int .i64 st, .slice vA nv vc, .slice dA nd dc, .slice oA no oc, .int .u64 la, .slice mA nm mc] 29)) (fun i _ => nd - (intOf i).toNat)
  case atStart => exact ⟨0, Nat.zero_le _, rfl, (fun j d hj => absurd hj (by omega)), HW.out, HX.out⟩
  case round =>
    obtain ⟨k, hk, rfl, HJ, hb, HXR⟩ := hrel
    have hz : w.heap.size < wr.heap.size := HXR.out.lt
    have hcx := HXR.out.cell
    by_cases hlt : k < nd
    · obtain ⟨x, hx⟩ : ∃ x, dl[k]? = some x := ⟨_, List.getElem?_eq_getElem (by rw [HND.out]; exact hlt)⟩
      obtain ⟨tb, ot, hAe, hab, e0, e1, e2, e3, e4, e5⟩ := (HD.out.2.2.1.below (hb.mono hB)).done hx
      have hwz : tb < wr.heap.size := by omega
      have hxm := sl_len (HD.out.2.2.2 x (List.mem_of_getElem? hx)).2
      have HXX := hide_ hx
      subst hAe
      obtain ⟨cl, sq, er, inc2, st2, ⟨A, c, va⟩⟩ := x
      simp only at e5 hxm
      obtain ⟨m, hm⟩ : ∃ m, va.length = m := ⟨_, rfl⟩
      rw [hm] at e5 hxm
      have HM := hide_ hm
      have HB := hide_ hb
      clear hx hm e0 e1 e2 e3 e4 hb
      by_cases c5 : 50 < m
      · have d5 : decide (50 < (m : Int)) = true := decide_eq_true (by omega)
        clear c5
        go_wp2
        go_ret
        exact someG_mk true rfl HB.out (fun h => by cases h)
      · have d5 : decide (50 < (m : Int)) = false := decide_eq_false (by omega)
        have HJ2 := hide_ (show ∀ j d, j < k + 1 → dl[j]? = some d → d.va.l.length ≤ 50 from fun j d hj hd => by
          by_cases h : j = k
          · rw [h, HXX.out] at hd
            injection hd with hd
            rw [← hd]
            show va.length ≤ 50
            rw [HM.out]
            omega
          · exact HJ.out j d (by omega) hd)
        clear c5
        go_wp2
        go_roundw
        case rel => exact ⟨k + 1, by omega, by go_num, HJ2, HB.out, HXR⟩
        case measure => simp [intOf]; omega
    · obtain rfl : k = nd := by omega
      have HB := hide_ hb
      clear hb
      have HK := hide_ (show ∀ d ∈ dl, d.va.l.length ≤ 50 from fun d hd => by
        obtain ⟨j, hj, rfl⟩ := List.getElem_of_mem hd
        exact HJ.out j _ (by rw [← HND.out]; exact hj) (List.getElem?_eq_getElem hj))
      go_wp2
      go_ret
      exact someG_mk false rfl HB.out (fun _ => ⟨by show vl.length ≤ 50; rw [HNV.out]; exact HLE.out.1, by show dl.length ≤ 50; rw [HND.out]; exact HLE.out.2.1, by show ol.length ≤ 50; rw [HNO.out]; exact HLE.out.2.2.1, by show ml.length ≤ 50; rw [HNM.out]; exact HLE.out.2.2.2, HK.out⟩)
end Go.Proofs.Ytkfejiolfkepkaa
