/-
  Texts of this claim put together: Set7.
-/
import Derived.Test.YtccfjaefnejjmaaGreatJ28
import Derived.Test.YtccfjaefnejjmaaGreatJ25
import Derived.BigQuiet
import Derived.Deep.DeepCutAuto
/-
  Contracts of engine's Settled and Next, and of the reference's.
-/
namespace Go.Proofs.YtccfjaefnejjmaaGreat
open Go.RowKit

/-- is a message settled by a mark? -/
def setdX (so inc ce : Int) (m : MrkM) : Bool := decide (m.1 = so) && (decide (inc < m.2.1) || (decide (m.2.1 = inc) && decide (ce ≤ m.2.2)))
def setdK (so inc ce : Int) (l : List MrkM) (k : Nat) : Bool := match l[k]? with | some m => setdX so inc ce m | none => false
def setdB (so inc ce : Int) (l : List MrkM) : Bool := anyB (setdK so inc ce l) l.length
theorem setdK_at {so inc ce : Int} {l : List MrkM} {k : Nat} {m : MrkM} (h : l[k]? = some m) : setdK so inc ce l k = setdX so inc ce m := by unfold setdK; rw [h]

set_option maxRecDepth 100000 in
theorem settle1_any (m : MrkM) (zs zi zc : Nat) (so inc ce : Int) (w : World) (h1 : w.cell? ⟨zs, 0, none⟩ = some (.int .u8 so)) (h2 : w.cell? ⟨zi, 0, none⟩ = some (.int .u64 inc)) (h3 : w.cell? ⟨zc, 0, none⟩ = some (.int .u64 ce)) (z1 : zs < w.heap.size) (z2 : zi < w.heap.size) (z3 : zc < w.heap.size) :
    Calls Tryz.prog 40 #[mrkV m, .pointer (some ⟨zs, 0, none⟩), .pointer (some ⟨zi, 0, none⟩), .pointer (some ⟨zc, 0, none⟩)] w fun e w' => e = .returned (.bool (setdX so inc ce m)) ∧ Below w.heap.size w w' := by
  obtain ⟨ms, mi, mc⟩ := m
  have HW := hide_ (show Below w.heap.size w (w.alloc (.cells #[.int .u8 ms, .int .u64 mi, .int .u64 mc] 61)) from (Below.refl _ _).alloc (Nat.le_refl _) _)
  obtain ⟨G, hG⟩ : ∃ G, setdX so inc ce (ms, mi, mc) = G := ⟨_, rfl⟩
  have HG := hide_ (show G = (decide (ms = so) && (decide (inc < mi) || (decide (mi = inc) && decide (ce ≤ mc)))) by rw [← hG]; rfl)
  rw [hG]
  simp only [mrkV]
  clear hG
  by_cases q_s : ms = so
  case pos =>
    have d_s : (ms == so) = true := beq_iff_eq.2 q_s
    by_cases q_i : inc < mi
    case pos =>
      have d_i : decide (inc < mi) = true := decide_eq_true q_i
      have HP := hide_ (show G = true by rw [HG.out]; simp [*])
      clear q_s q_i
      go_enter Tryz.func40, Tryz.ntmps40
      go_wp2
      go_ret
      exact ⟨ret_boolT HP.out.symm, HW.out⟩
    case neg =>
      have d_i : decide (inc < mi) = false := decide_eq_false q_i
      by_cases q_e : mi = inc
      case pos =>
        have d_e : (mi == inc) = true := beq_iff_eq.2 q_e
        by_cases q_c : ce ≤ mc
        case pos =>
          have d_c : decide (ce ≤ mc) = true := decide_eq_true q_c
          have HP := hide_ (show G = true by rw [HG.out]; simp [*])
          clear q_s q_i q_e q_c
          go_enter Tryz.func40, Tryz.ntmps40
          go_wp2
          go_ret
          exact ⟨ret_boolT HP.out.symm, HW.out⟩
        case neg =>
          have d_c : decide (ce ≤ mc) = false := decide_eq_false q_c
          have HP := hide_ (show G = false by rw [HG.out]; simp [*])
          clear q_s q_i q_e q_c
          go_enter Tryz.func40, Tryz.ntmps40
          go_wp2
          go_ret
          exact ⟨ret_boolT HP.out.symm, HW.out⟩
      case neg =>
        have d_e : (mi == inc) = false := beq_eq_false_iff_ne.2 q_e
        have HP := hide_ (show G = false by rw [HG.out]; simp [*])
        clear q_s q_i q_e
        go_enter Tryz.func40, Tryz.ntmps40
        go_wp2
        go_ret
        exact ⟨ret_boolT HP.out.symm, HW.out⟩
  case neg =>
    have d_s : (ms == so) = false := beq_eq_false_iff_ne.2 q_s
    have HP := hide_ (show G = false by rw [HG.out]; simp [*])
    clear q_s
    go_enter Tryz.func40, Tryz.ntmps40
    go_wp2
    go_ret
    exact ⟨ret_boolT HP.out.symm, HW.out⟩

set_option maxRecDepth 100000 in
set_option maxHeartbeats 3200000 in
theorem Settled_any (r : RegM) (so inc0 ce : Int) (B : Nat) (w : World) (hr : RegM.ok w B r) (hB : B ≤ w.heap.size) :
    Calls Tryz.prog 22 #[r.v, .int .u8 so, .int .u64 inc0, .int .u64 ce] w fun e w' => e = .returned (.bool (setdB so inc0 ce r.ma.l)) ∧ Below w.heap.size w w' := by
  have HM := hide_ (fun (u : World) (hb : Below w.heap.size w u) => mrks_stable.more (mrks_stable.below hr.2.2.2.2 (hb.mono hB)) (Nat.le_trans hB hb.size))
  clear hr
  obtain ⟨ki, inc, st, ⟨vA, vc, vl⟩, ⟨dA, dc, dl⟩, ⟨oA, oc, ol⟩, la, ⟨mA, mc, ml⟩⟩ := r
  obtain ⟨no, hno⟩ : ∃ n, ol.length = n := ⟨_, rfl⟩
  obtain ⟨nm, hnm⟩ : ∃ n, ml.length = n := ⟨_, rfl⟩
  simp only [RegM.v, Sl.v, hno, hnm]
  obtain ⟨W0, hW0⟩ : ∃ W0, (((w.alloc (.cells #[.int .u8 ki, .int .u64 inc, .int .i64 st, .slice vA vl.length vc, .slice dA dl.length dc, .slice oA no oc, .int .u64 la, .slice mA nm mc] 31)).alloc (.cells #[.int .u8 so] 5)).alloc (.cells #[.int .u64 inc0] 25)).alloc (.cells #[.int .u64 ce] 25) = W0 := ⟨_, rfl⟩
  have HB0 := hide_ (show Below w.heap.size w W0 from hW0 ▸ ((((Below.refl _ _).alloc (Nat.le_refl _) _).alloc (by simp) _).alloc (by simp; omega) _).alloc (by simp; omega) _)
  have HS0 := hide_ (show BoxAt W0 (w.heap.size + 1) #[.int .u8 so] 5 from by
    have h := ((BoxAt.new (w.alloc (.cells #[.int .u8 ki, .int .u64 inc, .int .i64 st, .slice vA vl.length vc, .slice dA dl.length dc, .slice oA no oc, .int .u64 la, .slice mA nm mc] 31)) #[.int .u8 so] 5).alloc (.cells #[.int .u64 inc0] 25)).alloc (.cells #[.int .u64 ce] 25)
    rw [hW0] at h
    simpa using h)
  have HI0 := hide_ (show BoxAt W0 (w.heap.size + 2) #[.int .u64 inc0] 25 from by
    have h := (BoxAt.new ((w.alloc (.cells #[.int .u8 ki, .int .u64 inc, .int .i64 st, .slice vA vl.length vc, .slice dA dl.length dc, .slice oA no oc, .int .u64 la, .slice mA nm mc] 31)).alloc (.cells #[.int .u8 so] 5)) #[.int .u64 inc0] 25).alloc (.cells #[.int .u64 ce] 25)
    rw [hW0] at h
    simpa using h)
  have HC0 := hide_ (show BoxAt W0 (w.heap.size + 3) #[.int .u64 ce] 25 from by
    have h := BoxAt.new (((w.alloc (.cells #[.int .u8 ki, .int .u64 inc, .int .i64 st, .slice vA vl.length vc, .slice dA dl.length dc, .slice oA no oc, .int .u64 la, .slice mA nm mc] 31)).alloc (.cells #[.int .u8 so] 5)).alloc (.cells #[.int .u64 inc0] 25)) #[.int .u64 ce] 25
    rw [hW0] at h
    simpa using h)
  have HCF := hide_ (containsMark_any (setdK so inc0 ce ml) (fun _ _ => True) 40 #[.pointer (some ⟨w.heap.size + 1, 0, none⟩), .pointer (some ⟨w.heap.size + 2, 0, none⟩), .pointer (some ⟨w.heap.size + 3, 0, none⟩)] ⟨mA, mc, ml⟩ W0.heap.size W0 (HM.out _ HB0.out) (Nat.le_refl _) trivial (fun _ _ => rfl) (fun k x wr hx hb _ => by
    rw [setdK_at hx]
    exact (settle1_any x (w.heap.size + 1) (w.heap.size + 2) (w.heap.size + 3) so inc0 ce wr ((HS0.out.below hb).cell 0) ((HI0.out.below hb).cell 0) ((HC0.out.below hb).cell 0) (HS0.out.below hb).lt (HI0.out.below hb).lt (HC0.out.below hb).lt).mono fun e w' h => ⟨h.1, fun _ => trivial, h.2.mono hb.size⟩))
  have HR := hide_ (show anyB (setdK so inc0 ce ml) nm = setdB so inc0 ce ml by rw [← hnm]; rfl)
  simp only [Sl.v, hnm] at HCF
  rw [HR.out] at HCF
  have HW0 := hide_ hW0
  clear hno hnm hW0 HM HS0 HI0 HC0
  go_enter Tryz.func22, Tryz.ntmps22
  go_wp2_with fail
  rw [HW0.out]
  refine HCF.out.mono ?_
  rintro en w1 ⟨rfl, hb1⟩
  have HB1 := hide_ (HB0.out.trans (hb1.mono HB0.out.size))
  clear hb1
  go_wp2
  go_ret
  exact ⟨rfl, HB1.out⟩

set_option maxRecDepth 100000 in
set_option maxHeartbeats 6400000 in
theorem refSettled_any (r : RegM) (so inc0 ce : Int) (B : Nat) (w : World) (hr : RegM.ok w B r) (hB : B ≤ w.heap.size) :
    Calls Tryz.prog 23 #[r.v, .int .u8 so, .int .u64 inc0, .int .u64 ce] w fun e w' => e = .returned (.bool (setdB so inc0 ce r.ma.l)) ∧ Below w.heap.size w w' := by
  have HM := hide_ (fun (u : World) (hb : Below w.heap.size w u) => mrks_stable.below hr.2.2.2.2 (hb.mono hB))
  have m4 := sl_len hr.2.2.2.2
  clear hr
  obtain ⟨ki, inc, st, ⟨vA, vc, vl⟩, ⟨dA, dc, dl⟩, ⟨oA, oc, ol⟩, la, ⟨mA, mc, ml⟩⟩ := r
  obtain ⟨no, hno⟩ : ∃ n, ol.length = n := ⟨_, rfl⟩
  obtain ⟨nm, hnm⟩ : ∃ n, ml.length = n := ⟨_, rfl⟩
  simp only [RegM.v, Sl.v, hno, hnm] at m4 ⊢
  obtain ⟨G, hG⟩ : ∃ G, setdB so inc0 ce ml = G := ⟨_, rfl⟩
  have HG := hide_ (show anyB (setdK so inc0 ce ml) nm = G by rw [← hG, ← hnm]; rfl)
  rw [hG]
  have HNM := hide_ hnm
  have HX := hide_ (BoxAt.new w #[.int .u8 ki, .int .u64 inc, .int .i64 st, .slice vA vl.length vc, .slice dA dl.length dc, .slice oA no oc, .int .u64 la, .slice mA nm mc] 31)
  have HW := hide_ (show Below w.heap.size w (w.alloc (.cells #[.int .u8 ki, .int .u64 inc, .int .i64 st, .slice vA vl.length vc, .slice dA dl.length dc, .slice oA no oc, .int .u64 la, .slice mA nm mc] 31)) from (Below.refl _ _).alloc (Nat.le_refl _) _)
  clear hno hnm hG
  go_enter Tryz.func23, Tryz.ntmps23
  go_wp2
  go_loopw [14] (fun i wr => ∃ k : Nat, k ≤ nm ∧ i = .int .i64 k ∧ Hid (∀ j, j < k → setdK so inc0 ce ml j = false) ∧ Below w.heap.size w wr ∧ Hid (BoxAt wr w.heap.size #[.int .u8 ki, .int .u64 inc, .int .i64 st, .slice vA vl.length vc, .slice dA dl.length dc, .slice oA no oc, .int .u64 la, .slice mA nm mc] 31)) (fun i _ => nm - (intOf i).toNat)
  case atStart => exact ⟨0, Nat.zero_le _, rfl, (fun j hj => absurd hj (by omega)), HW.out, HX.out⟩
  case round =>
    obtain ⟨k, hk, rfl, HJ, hb, HXR⟩ := hrel
    have hz : w.heap.size < wr.heap.size := HXR.out.lt
    have hcx := HXR.out.cell
    have HB := hide_ hb
    by_cases hlt : k < nm
    case neg =>
      obtain rfl : k = nm := by omega
      have HP := hide_ (show G = false by rw [← HG.out]; exact anyB_false.2 HJ.out)
      clear hb
      go_wp2
      go_ret
      exact ⟨ret_boolT HP.out.symm, HB.out⟩
    obtain ⟨x, hx⟩ : ∃ x, ml[k]? = some x := ⟨_, List.getElem?_eq_getElem (by rw [HNM.out]; exact hlt)⟩
    obtain ⟨tb, ot, hAe, hab, e0, e1, e2⟩ := (HM.out _ hb).2.2.1.mrk hx
    have hwz : tb < wr.heap.size := by omega
    have HAT := hide_ (setdK_at (so := so) (inc := inc0) (ce := ce) hx)
    subst hAe
    clear hx hb
    obtain ⟨ms, mi, mx⟩ := x
    simp only at e0 e1 e2
    obtain ⟨q, hq⟩ : ∃ q, setdX so inc0 ce (ms, mi, mx) = q := ⟨_, rfl⟩
    rw [hq] at HAT
    have HQ := hide_ (show q = (decide (ms = so) && (decide (inc0 < mi) || (decide (mi = inc0) && decide (ce ≤ mx)))) by rw [← hq]; rfl)
    clear hq
    have HYES := hide_ (show q = true → G = true from fun h => by rw [← HG.out, anyB_true]; exact ⟨k, hlt, HAT.out.trans h⟩)
    have HNO := hide_ (show q = false → ∀ j, j < k + 1 → setdK so inc0 ce ml j = false from fun h j hj => by
      by_cases e : j = k
      · rw [e]; exact HAT.out.trans h
      · exact HJ.out j (by omega))
    have HBA := hide_ (HB.out.alloc HB.out.size (.cells #[.int .u8 ms, .int .u64 mi, .int .u64 mx] 61))
    have HXA := hide_ (HXR.out.alloc (.cells #[.int .u8 ms, .int .u64 mi, .int .u64 mx] 61))
    by_cases q_s : ms = so
    case pos =>
      have d_s : (ms == so) = true := beq_iff_eq.2 q_s
      by_cases q_i : inc0 < mi
      case pos =>
        have d_i : decide (inc0 < mi) = true := decide_eq_true q_i
        have hqv : q = true := by rw [HQ.out]; simp [*]
        have HP := hide_ (HYES.out hqv)
        clear q_s q_i hqv
        go_wp2
        go_ret
        exact ⟨ret_boolT HP.out.symm, HBA.out⟩
      case neg =>
        have d_i : decide (inc0 < mi) = false := decide_eq_false q_i
        by_cases q_e : mi = inc0
        case pos =>
          have d_e : (mi == inc0) = true := beq_iff_eq.2 q_e
          by_cases q_c : ce ≤ mx
          case pos =>
            have d_c : decide (ce ≤ mx) = true := decide_eq_true q_c
            have hqv : q = true := by rw [HQ.out]; simp [*]
            have HP := hide_ (HYES.out hqv)
            clear q_s q_i q_e q_c hqv
            go_wp2
            go_ret
            exact ⟨ret_boolT HP.out.symm, HBA.out⟩
          case neg =>
            have d_c : decide (ce ≤ mx) = false := decide_eq_false q_c
            have hqv : q = false := by rw [HQ.out]; simp [*]
            have HJ2 := hide_ (HNO.out hqv)
            clear q_s q_i q_e q_c hqv
            go_wp2
            go_roundw
            case rel => exact ⟨k + 1, by omega, by go_num, HJ2, HBA.out, HXA⟩
            case measure => simp [intOf]; omega
        case neg =>
          have d_e : (mi == inc0) = false := beq_eq_false_iff_ne.2 q_e
          have hqv : q = false := by rw [HQ.out]; simp [*]
          have HJ2 := hide_ (HNO.out hqv)
          clear q_s q_i q_e hqv
          go_wp2
          go_roundw
          case rel => exact ⟨k + 1, by omega, by go_num, HJ2, HBA.out, HXA⟩
          case measure => simp [intOf]; omega
    case neg =>
      have d_s : (ms == so) = false := beq_eq_false_iff_ne.2 q_s
      have hqv : q = false := by rw [HQ.out]; simp [*]
      have HJ2 := hide_ (HNO.out hqv)
      clear q_s hqv
      go_wp2
      go_roundw
      case rel => exact ⟨k + 1, by omega, by go_num, HJ2, HBA.out, HXA⟩
      case measure => simp [intOf]; omega

/-- the lowest cell to a target so far -/
def nextStep (tg : Int) (s : CelM × Bool) (c : CelM) : CelM × Bool := if decide (c.2.1 = tg) && (!s.2 || decide (c.1 < s.1.1)) then (c, true) else s
def nextG (l : List CelM) (tg : Int) : CelM × Bool := l.foldl (nextStep tg) ((0, 0, 0, 0), false)
theorem next_snoc {l : List CelM} {k : Nat} {c : CelM} (tg : Int) (h : l[k]? = some c) : (l.take (k + 1)).foldl (nextStep tg) ((0, 0, 0, 0), false) = nextStep tg ((l.take k).foldl (nextStep tg) ((0, 0, 0, 0), false)) c := by
  rw [List.take_add_one, h]
  simp [List.foldl_append]
/-- what Next leaves -/
def Nexts (r : CelM × Bool) (w : World) (e : Ending) (w' : World) : Prop := e = .returned (.tuple #[celV r.1, .bool r.2]) ∧ Below w.heap.size w w'

theorem BoxAt.apart7 {w : World} {g b i : Nat} {cs : Array Value} {t : TypeId} {u : Value} (h : BoxAt w g cs t) (hne : g ≠ b) : BoxAt (w.setCell ⟨b, i, none⟩ u) g cs t := (Below.heap_setCell w ⟨b, i, none⟩ u g hne).trans h

set_option maxRecDepth 100000 in
set_option maxHeartbeats 12800000 in
theorem Next7_any (r : RegM) (tg : Int) (B : Nat) (w : World) (hr : RegM.ok w B r) (hB : B ≤ w.heap.size) :
    Calls Tryz.prog 24 #[r.v, .int .u8 tg] w (Nexts (nextG r.ou.l tg) w) := by
  have HO := hide_ (fun (u : World) (hb : Below w.heap.size w u) => cels_stable.below hr.2.2.2.1 (hb.mono hB))
  have m4 := sl_len hr.2.2.2.1
  clear hr
  obtain ⟨ki, inc, st, ⟨vA, vc, vl⟩, ⟨dA, dc, dl⟩, ⟨oA, oc, ol⟩, la, ⟨mA, mc, ml⟩⟩ := r
  obtain ⟨no, hno⟩ : ∃ n, ol.length = n := ⟨_, rfl⟩
  obtain ⟨nm, hnm⟩ : ∃ n, ml.length = n := ⟨_, rfl⟩
  simp only [RegM.v, Sl.v, hno, hnm] at m4 ⊢
  obtain ⟨G, hG⟩ : ∃ G, nextG ol tg = G := ⟨_, rfl⟩
  have HG := hide_ (show (ol.take no).foldl (nextStep tg) ((0, 0, 0, 0), false) = G by rw [← hG, ← hno, List.take_length]; rfl)
  rw [hG]
  have HNO := hide_ hno
  obtain ⟨W0, hW0⟩ : ∃ W0, ((w.alloc (.cells #[.int .u8 ki, .int .u64 inc, .int .i64 st, .slice vA vl.length vc, .slice dA dl.length dc, .slice oA no oc, .int .u64 la, .slice mA nm mc] 31)).alloc (.cells #[.int .u64 0, .int .u8 0, .int .i64 0, .int .i64 0] 50)).alloc (.cells #[.int .u64 0, .int .u8 0, .int .i64 0, .int .i64 0] 50) = W0 := ⟨_, rfl⟩
  have HX := hide_ (show BoxAt W0 w.heap.size #[.int .u8 ki, .int .u64 inc, .int .i64 st, .slice vA vl.length vc, .slice dA dl.length dc, .slice oA no oc, .int .u64 la, .slice mA nm mc] 31 from hW0 ▸ ((BoxAt.new w #[.int .u8 ki, .int .u64 inc, .int .i64 st, .slice vA vl.length vc, .slice dA dl.length dc, .slice oA no oc, .int .u64 la, .slice mA nm mc] 31).alloc _).alloc _)
  have HZ := hide_ (show BoxAt W0 (w.heap.size + 1) #[.int .u64 0, .int .u8 0, .int .i64 0, .int .i64 0] 50 from by
    have h := (BoxAt.new (w.alloc (.cells #[.int .u8 ki, .int .u64 inc, .int .i64 st, .slice vA vl.length vc, .slice dA dl.length dc, .slice oA no oc, .int .u64 la, .slice mA nm mc] 31)) #[.int .u64 0, .int .u8 0, .int .i64 0, .int .i64 0] 50).alloc (.cells #[.int .u64 0, .int .u8 0, .int .i64 0, .int .i64 0] 50)
    rw [hW0] at h
    simpa using h)
  have HL := hide_ (show BoxAt W0 (w.heap.size + 1 + 1) #[.int .u64 0, .int .u8 0, .int .i64 0, .int .i64 0] 50 from by
    have h := BoxAt.new ((w.alloc (.cells #[.int .u8 ki, .int .u64 inc, .int .i64 st, .slice vA vl.length vc, .slice dA dl.length dc, .slice oA no oc, .int .u64 la, .slice mA nm mc] 31)).alloc (.cells #[.int .u64 0, .int .u8 0, .int .i64 0, .int .i64 0] 50)) #[.int .u64 0, .int .u8 0, .int .i64 0, .int .i64 0] 50
    rw [hW0] at h
    simpa using h)
  have HW := hide_ (show Below w.heap.size w W0 from hW0 ▸ (((Below.refl _ _).alloc (Nat.le_refl _) _).alloc (by simp) _).alloc (by simp; omega) _)
  have HW0 := hide_ hW0
  clear hno hnm hG hW0
  go_enter Tryz.func24, Tryz.ntmps24
  go_wp2
  rw [HW0.out]
  go_loopw [7, 13] (fun h i wr => ∃ (k : Nat) (s : CelM × Bool), k ≤ no ∧ i = .int .i64 k ∧ h = .bool s.2 ∧ Hid ((ol.take k).foldl (nextStep tg) ((0, 0, 0, 0), false) = s) ∧ Below w.heap.size w wr ∧ Hid (BoxAt wr w.heap.size #[.int .u8 ki, .int .u64 inc, .int .i64 st, .slice vA vl.length vc, .slice dA dl.length dc, .slice oA no oc, .int .u64 la, .slice mA nm mc] 31 ∧ BoxAt wr (w.heap.size + 1) #[.int .u64 0, .int .u8 0, .int .i64 0, .int .i64 0] 50) ∧ Hid (BoxAt wr (w.heap.size + 1 + 1) #[.int .u64 s.1.1, .int .u8 s.1.2.1, .int .i64 s.1.2.2.1, .int .i64 s.1.2.2.2] 50)) (fun _ i _ => no - (intOf i).toNat)
  case atStart => exact ⟨0, ((0, 0, 0, 0), false), Nat.zero_le _, rfl, rfl, (rfl : _ = _), HW.out, ⟨HX.out, HZ.out⟩, HL.out⟩
  case round =>
    obtain ⟨k, ⟨⟨l0, l1, l2, l3⟩, hs⟩, hk, rfl, rfl, HJ, hb, HXR, HLR⟩ := hrel
    simp only at HLR
    have hz : w.heap.size < wr.heap.size := HXR.out.1.lt
    have hz1 : w.heap.size + 1 < wr.heap.size := HXR.out.2.lt
    have hz2 : w.heap.size + 1 + 1 < wr.heap.size := HLR.out.lt
    have hcl := HLR.out.cell
    have hfl := HLR.out.frozen
    have HB := hide_ hb
    by_cases hlt : k < no
    case neg =>
      obtain rfl : k = no := by omega
      have HP := hide_ (show G = ((l0, l1, l2, l3), hs) by rw [← HG.out]; exact HJ.out)
      clear hb
      have hcx := HXR.out.1.cell
      have r0 := (HXR.out.2.cell 0).trans (show _ = some (.int .u64 0 : Value) from rfl)
      have g0 := HXR.out.2.frozen 0
      have r1 := (HXR.out.2.cell 1).trans (show _ = some (.int .u8 0 : Value) from rfl)
      have g1 := HXR.out.2.frozen 1
      have r2 := (HXR.out.2.cell 2).trans (show _ = some (.int .i64 0 : Value) from rfl)
      have g2 := HXR.out.2.frozen 2
      have r3 := (HXR.out.2.cell 3).trans (show _ = some (.int .i64 0 : Value) from rfl)
      have g3 := HXR.out.2.frozen 3
      go_wp2
      refine bodyPost_ret (v := .tuple #[.agg #[.int .u64 l0, .int .u8 l1, .int .i64 l2, .int .i64 l3], .bool hs]) (by simp [results, Tryz.results24, go_sem, r0, r1, r2, r3]) rfl ?_
      clear r0 g0 r1 g1 r2 g2 r3 g3 hcl hfl hcx
      rw [HP.out]
      refine ⟨rfl, ?_⟩
      iterate 4 refine Below.setCell ?_ (by simp) _
      exact HB.out
    obtain ⟨x, hx⟩ : ∃ x, ol[k]? = some x := ⟨_, List.getElem?_eq_getElem (by rw [HNO.out]; exact hlt)⟩
    obtain ⟨tb, ot, hAe, hab, e0, e1, e2, e3⟩ := (HO.out _ hb).2.2.1.cel hx
    have hwz : tb < wr.heap.size := by omega
    have HST := hide_ (next_snoc tg hx)
    rw [HJ.out] at HST
    subst hAe
    have hcx := HXR.out.1.cell
    clear hx hb
    obtain ⟨cn, ct, ca, cr⟩ := x
    simp only at e0 e1 e2 e3
    have HQ := hide_ (show nextStep tg ((l0, l1, l2, l3), hs) (cn, ct, ca, cr) = if decide (ct = tg) && (!hs || decide (cn < l0)) then ((cn, ct, ca, cr), true) else ((l0, l1, l2, l3), hs) from rfl)
    have HBA := hide_ (HB.out.alloc HB.out.size (.cells #[.int .u64 cn, .int .u8 ct, .int .i64 ca, .int .i64 cr] 50))
    have HXA := hide_ (show BoxAt (wr.alloc (.cells #[.int .u64 cn, .int .u8 ct, .int .i64 ca, .int .i64 cr] 50)) w.heap.size _ _ ∧ BoxAt (wr.alloc (.cells #[.int .u64 cn, .int .u8 ct, .int .i64 ca, .int .i64 cr] 50)) (w.heap.size + 1) _ _ from ⟨HXR.out.1.alloc (.cells #[.int .u64 cn, .int .u8 ct, .int .i64 ca, .int .i64 cr] 50), HXR.out.2.alloc (.cells #[.int .u64 cn, .int .u8 ct, .int .i64 ca, .int .i64 cr] 50)⟩)
    have HLA := hide_ (HLR.out.alloc (.cells #[.int .u64 cn, .int .u8 ct, .int .i64 ca, .int .i64 cr] 50))
    have hcl2 := HLA.out.cell
    have hfl2 := HLA.out.frozen
    have H4 := hide_ (show Below w.heap.size w ((((wr.setCell ⟨w.heap.size + 1 + 1, 0, none⟩ (.int .u64 cn)).setCell ⟨w.heap.size + 1 + 1, 1, none⟩ (.int .u8 ct)).setCell ⟨w.heap.size + 1 + 1, 2, none⟩ (.int .i64 ca)).setCell ⟨w.heap.size + 1 + 1, 3, none⟩ (.int .i64 cr)) ∧ BoxAt ((((wr.setCell ⟨w.heap.size + 1 + 1, 0, none⟩ (.int .u64 cn)).setCell ⟨w.heap.size + 1 + 1, 1, none⟩ (.int .u8 ct)).setCell ⟨w.heap.size + 1 + 1, 2, none⟩ (.int .i64 ca)).setCell ⟨w.heap.size + 1 + 1, 3, none⟩ (.int .i64 cr)) w.heap.size #[.int .u8 ki, .int .u64 inc, .int .i64 st, .slice vA vl.length vc, .slice dA dl.length dc, .slice (some ⟨tb, ot, none⟩) no oc, .int .u64 la, .slice mA nm mc] 31 ∧ BoxAt ((((wr.setCell ⟨w.heap.size + 1 + 1, 0, none⟩ (.int .u64 cn)).setCell ⟨w.heap.size + 1 + 1, 1, none⟩ (.int .u8 ct)).setCell ⟨w.heap.size + 1 + 1, 2, none⟩ (.int .i64 ca)).setCell ⟨w.heap.size + 1 + 1, 3, none⟩ (.int .i64 cr)) (w.heap.size + 1) #[.int .u64 0, .int .u8 0, .int .i64 0, .int .i64 0] 50 ∧ BoxAt ((((wr.setCell ⟨w.heap.size + 1 + 1, 0, none⟩ (.int .u64 cn)).setCell ⟨w.heap.size + 1 + 1, 1, none⟩ (.int .u8 ct)).setCell ⟨w.heap.size + 1 + 1, 2, none⟩ (.int .i64 ca)).setCell ⟨w.heap.size + 1 + 1, 3, none⟩ (.int .i64 cr)) (w.heap.size + 1 + 1) #[.int .u64 cn, .int .u8 ct, .int .i64 ca, .int .i64 cr] 50 from ⟨((((HB.out.setCell (p := ⟨w.heap.size + 1 + 1, 0, none⟩) (by show w.heap.size ≤ w.heap.size + 1 + 1; omega) _).setCell (p := ⟨w.heap.size + 1 + 1, 1, none⟩) (by show w.heap.size ≤ w.heap.size + 1 + 1; omega) _).setCell (p := ⟨w.heap.size + 1 + 1, 2, none⟩) (by show w.heap.size ≤ w.heap.size + 1 + 1; omega) _).setCell (p := ⟨w.heap.size + 1 + 1, 3, none⟩) (by show w.heap.size ≤ w.heap.size + 1 + 1; omega) _), (BoxAt.apart7 (BoxAt.apart7 (BoxAt.apart7 (BoxAt.apart7 HXR.out.1 (by omega)) (by omega)) (by omega)) (by omega)), (BoxAt.apart7 (BoxAt.apart7 (BoxAt.apart7 (BoxAt.apart7 HXR.out.2 (by omega)) (by omega)) (by omega)) (by omega)), heap_set 3 _ (heap_set 2 _ (heap_set 1 _ (heap_set 0 _ HLR.out)))⟩)
    by_cases q_t : ct = tg
    case neg =>
      have d_t : (ct == tg) = false := beq_eq_false_iff_ne.2 q_t
      have HN := hide_ (show (ol.take (k + 1)).foldl (nextStep tg) ((0, 0, 0, 0), false) = ((l0, l1, l2, l3), hs) by rw [HST.out, HQ.out]; simp [q_t])
      clear q_t
      go_wp2
      go_roundw
      case rel => exact ⟨k + 1, ((l0, l1, l2, l3), hs), by omega, by go_num, rfl, HN, HBA.out, HXA, HLA⟩
      case measure => simp [intOf]; omega
    have d_t : (ct == tg) = true := beq_iff_eq.2 q_t
    cases hs with
    | false =>
      have HN := hide_ (show (ol.take (k + 1)).foldl (nextStep tg) ((0, 0, 0, 0), false) = ((cn, ct, ca, cr), true) by rw [HST.out, HQ.out]; simp [q_t])
      clear q_t
      go_wp2
      go_roundw
      case rel => exact ⟨k + 1, ((cn, ct, ca, cr), true), by omega, by go_num, rfl, HN, H4.out.1.alloc H4.out.1.size _, ⟨H4.out.2.1.alloc _, H4.out.2.2.1.alloc _⟩, H4.out.2.2.2.alloc _⟩
      case measure => simp [intOf]; omega
    | true =>
    by_cases q_n : cn < l0
    case pos =>
      have d_n : decide (cn < l0) = true := decide_eq_true q_n
      have HN := hide_ (show (ol.take (k + 1)).foldl (nextStep tg) ((0, 0, 0, 0), false) = ((cn, ct, ca, cr), true) by rw [HST.out, HQ.out]; simp [q_t, q_n])
      clear q_t q_n
      go_wp2
      go_roundw
      case rel => exact ⟨k + 1, ((cn, ct, ca, cr), true), by omega, by go_num, rfl, HN, H4.out.1.alloc H4.out.1.size _, ⟨H4.out.2.1.alloc _, H4.out.2.2.1.alloc _⟩, H4.out.2.2.2.alloc _⟩
      case measure => simp [intOf]; omega
    have d_n : decide (cn < l0) = false := decide_eq_false q_n
    have HN := hide_ (show (ol.take (k + 1)).foldl (nextStep tg) ((0, 0, 0, 0), false) = ((l0, l1, l2, l3), true) by rw [HST.out, HQ.out]; simp [q_t, q_n])
    clear q_t q_n
    go_wp2
    go_roundw
    case rel => exact ⟨k + 1, ((l0, l1, l2, l3), true), by omega, by go_num, rfl, HN, HBA.out, HXA, HLA⟩
    case measure => simp [intOf]; omega

set_option maxRecDepth 100000 in
set_option maxHeartbeats 12800000 in
theorem refNext_any (r : RegM) (tg : Int) (B : Nat) (w : World) (hr : RegM.ok w B r) (hB : B ≤ w.heap.size) :
    Calls Tryz.prog 25 #[r.v, .int .u8 tg] w (Nexts (nextG r.ou.l tg) w) := by
  have HO := hide_ (fun (u : World) (hb : Below w.heap.size w u) => cels_stable.below hr.2.2.2.1 (hb.mono hB))
  have m4 := sl_len hr.2.2.2.1
  clear hr
  obtain ⟨ki, inc, st, ⟨vA, vc, vl⟩, ⟨dA, dc, dl⟩, ⟨oA, oc, ol⟩, la, ⟨mA, mc, ml⟩⟩ := r
  obtain ⟨no, hno⟩ : ∃ n, ol.length = n := ⟨_, rfl⟩
  obtain ⟨nm, hnm⟩ : ∃ n, ml.length = n := ⟨_, rfl⟩
  simp only [RegM.v, Sl.v, hno, hnm] at m4 ⊢
  obtain ⟨G, hG⟩ : ∃ G, nextG ol tg = G := ⟨_, rfl⟩
  have HG := hide_ (show (ol.take no).foldl (nextStep tg) ((0, 0, 0, 0), false) = G by rw [← hG, ← hno, List.take_length]; rfl)
  rw [hG]
  have HNO := hide_ hno
  obtain ⟨W0, hW0⟩ : ∃ W0, ((w.alloc (.cells #[.int .u8 ki, .int .u64 inc, .int .i64 st, .slice vA vl.length vc, .slice dA dl.length dc, .slice oA no oc, .int .u64 la, .slice mA nm mc] 31)).alloc (.cells #[.int .u64 0, .int .u8 0, .int .i64 0, .int .i64 0] 50)).alloc (.cells #[.int .u64 0, .int .u8 0, .int .i64 0, .int .i64 0] 50) = W0 := ⟨_, rfl⟩
  have HX := hide_ (show BoxAt W0 w.heap.size #[.int .u8 ki, .int .u64 inc, .int .i64 st, .slice vA vl.length vc, .slice dA dl.length dc, .slice oA no oc, .int .u64 la, .slice mA nm mc] 31 from hW0 ▸ ((BoxAt.new w #[.int .u8 ki, .int .u64 inc, .int .i64 st, .slice vA vl.length vc, .slice dA dl.length dc, .slice oA no oc, .int .u64 la, .slice mA nm mc] 31).alloc _).alloc _)
  have HZ := hide_ (show BoxAt W0 (w.heap.size + 1) #[.int .u64 0, .int .u8 0, .int .i64 0, .int .i64 0] 50 from by
    have h := (BoxAt.new (w.alloc (.cells #[.int .u8 ki, .int .u64 inc, .int .i64 st, .slice vA vl.length vc, .slice dA dl.length dc, .slice oA no oc, .int .u64 la, .slice mA nm mc] 31)) #[.int .u64 0, .int .u8 0, .int .i64 0, .int .i64 0] 50).alloc (.cells #[.int .u64 0, .int .u8 0, .int .i64 0, .int .i64 0] 50)
    rw [hW0] at h
    simpa using h)
  have HL := hide_ (show BoxAt W0 (w.heap.size + 1 + 1) #[.int .u64 0, .int .u8 0, .int .i64 0, .int .i64 0] 50 from by
    have h := BoxAt.new ((w.alloc (.cells #[.int .u8 ki, .int .u64 inc, .int .i64 st, .slice vA vl.length vc, .slice dA dl.length dc, .slice oA no oc, .int .u64 la, .slice mA nm mc] 31)).alloc (.cells #[.int .u64 0, .int .u8 0, .int .i64 0, .int .i64 0] 50)) #[.int .u64 0, .int .u8 0, .int .i64 0, .int .i64 0] 50
    rw [hW0] at h
    simpa using h)
  have HW := hide_ (show Below w.heap.size w W0 from hW0 ▸ (((Below.refl _ _).alloc (Nat.le_refl _) _).alloc (by simp) _).alloc (by simp; omega) _)
  have HW0 := hide_ hW0
  clear hno hnm hG hW0
  go_enter Tryz.func25, Tryz.ntmps25
  go_wp2
  rw [HW0.out]
  go_loopw [7, 13] (fun h i wr => ∃ (k : Nat) (s : CelM × Bool), k ≤ no ∧ i = .int .i64 k ∧ h = .bool s.2 ∧ Hid ((ol.take k).foldl (nextStep tg) ((0, 0, 0, 0), false) = s) ∧ Below w.heap.size w wr ∧ Hid (BoxAt wr w.heap.size #[.int .u8 ki, .int .u64 inc, .int .i64 st, .slice vA vl.length vc, .slice dA dl.length dc, .slice oA no oc, .int .u64 la, .slice mA nm mc] 31 ∧ BoxAt wr (w.heap.size + 1) #[.int .u64 0, .int .u8 0, .int .i64 0, .int .i64 0] 50) ∧ Hid (BoxAt wr (w.heap.size + 1 + 1) #[.int .u64 s.1.1, .int .u8 s.1.2.1, .int .i64 s.1.2.2.1, .int .i64 s.1.2.2.2] 50)) (fun _ i _ => no - (intOf i).toNat)
  case atStart => exact ⟨0, ((0, 0, 0, 0), false), Nat.zero_le _, rfl, rfl, (rfl : _ = _), HW.out, ⟨HX.out, HZ.out⟩, HL.out⟩
  case round =>
    obtain ⟨k, ⟨⟨l0, l1, l2, l3⟩, hs⟩, hk, rfl, rfl, HJ, hb, HXR, HLR⟩ := hrel
    simp only at HLR
    have hz : w.heap.size < wr.heap.size := HXR.out.1.lt
    have hz1 : w.heap.size + 1 < wr.heap.size := HXR.out.2.lt
    have hz2 : w.heap.size + 1 + 1 < wr.heap.size := HLR.out.lt
    have hcl := HLR.out.cell
    have hfl := HLR.out.frozen
    have HB := hide_ hb
    by_cases hlt : k < no
    case neg =>
      obtain rfl : k = no := by omega
      have HP := hide_ (show G = ((l0, l1, l2, l3), hs) by rw [← HG.out]; exact HJ.out)
      clear hb
      have hcx := HXR.out.1.cell
      have r0 := (HXR.out.2.cell 0).trans (show _ = some (.int .u64 0 : Value) from rfl)
      have g0 := HXR.out.2.frozen 0
      have r1 := (HXR.out.2.cell 1).trans (show _ = some (.int .u8 0 : Value) from rfl)
      have g1 := HXR.out.2.frozen 1
      have r2 := (HXR.out.2.cell 2).trans (show _ = some (.int .i64 0 : Value) from rfl)
      have g2 := HXR.out.2.frozen 2
      have r3 := (HXR.out.2.cell 3).trans (show _ = some (.int .i64 0 : Value) from rfl)
      have g3 := HXR.out.2.frozen 3
      go_wp2
      refine bodyPost_ret (v := .tuple #[.agg #[.int .u64 l0, .int .u8 l1, .int .i64 l2, .int .i64 l3], .bool hs]) (by simp [results, Tryz.results25, go_sem, r0, r1, r2, r3]) rfl ?_
      clear r0 g0 r1 g1 r2 g2 r3 g3 hcl hfl hcx
      rw [HP.out]
      refine ⟨rfl, ?_⟩
      iterate 4 refine Below.setCell ?_ (by simp) _
      exact HB.out
    obtain ⟨x, hx⟩ : ∃ x, ol[k]? = some x := ⟨_, List.getElem?_eq_getElem (by rw [HNO.out]; exact hlt)⟩
    obtain ⟨tb, ot, hAe, hab, e0, e1, e2, e3⟩ := (HO.out _ hb).2.2.1.cel hx
    have hwz : tb < wr.heap.size := by omega
    have HST := hide_ (next_snoc tg hx)
    rw [HJ.out] at HST
    subst hAe
    have hcx := HXR.out.1.cell
    clear hx hb
    obtain ⟨cn, ct, ca, cr⟩ := x
    simp only at e0 e1 e2 e3
    have HQ := hide_ (show nextStep tg ((l0, l1, l2, l3), hs) (cn, ct, ca, cr) = if decide (ct = tg) && (!hs || decide (cn < l0)) then ((cn, ct, ca, cr), true) else ((l0, l1, l2, l3), hs) from rfl)
    have HDQ := hide_ (fun (n : Nat) => show Below wr.heap.size wr (wr.drewN n) from ⟨rfl, rfl, rfl, Nat.le_refl _, fun _ _ => rfl⟩)
    have i5 : (k : Int) < (no : Int) := by omega
    have i6 : (0 : Int) ≤ (k : Int) := by omega
    have H4 := hide_ (fun (n : Nat) => show Below w.heap.size w (((((wr.drewN n).setCell ⟨w.heap.size + 1 + 1, 0, none⟩ (.int .u64 cn)).setCell ⟨w.heap.size + 1 + 1, 1, none⟩ (.int .u8 ct)).setCell ⟨w.heap.size + 1 + 1, 2, none⟩ (.int .i64 ca)).setCell ⟨w.heap.size + 1 + 1, 3, none⟩ (.int .i64 cr)) ∧ BoxAt (((((wr.drewN n).setCell ⟨w.heap.size + 1 + 1, 0, none⟩ (.int .u64 cn)).setCell ⟨w.heap.size + 1 + 1, 1, none⟩ (.int .u8 ct)).setCell ⟨w.heap.size + 1 + 1, 2, none⟩ (.int .i64 ca)).setCell ⟨w.heap.size + 1 + 1, 3, none⟩ (.int .i64 cr)) w.heap.size #[.int .u8 ki, .int .u64 inc, .int .i64 st, .slice vA vl.length vc, .slice dA dl.length dc, .slice (some ⟨tb, ot, none⟩) no oc, .int .u64 la, .slice mA nm mc] 31 ∧ BoxAt (((((wr.drewN n).setCell ⟨w.heap.size + 1 + 1, 0, none⟩ (.int .u64 cn)).setCell ⟨w.heap.size + 1 + 1, 1, none⟩ (.int .u8 ct)).setCell ⟨w.heap.size + 1 + 1, 2, none⟩ (.int .i64 ca)).setCell ⟨w.heap.size + 1 + 1, 3, none⟩ (.int .i64 cr)) (w.heap.size + 1) #[.int .u64 0, .int .u8 0, .int .i64 0, .int .i64 0] 50 ∧ BoxAt (((((wr.drewN n).setCell ⟨w.heap.size + 1 + 1, 0, none⟩ (.int .u64 cn)).setCell ⟨w.heap.size + 1 + 1, 1, none⟩ (.int .u8 ct)).setCell ⟨w.heap.size + 1 + 1, 2, none⟩ (.int .i64 ca)).setCell ⟨w.heap.size + 1 + 1, 3, none⟩ (.int .i64 cr)) (w.heap.size + 1 + 1) #[.int .u64 cn, .int .u8 ct, .int .i64 ca, .int .i64 cr] 50 from ⟨(((((HB.out.trans ((HDQ.out n).mono HB.out.size)).setCell (p := ⟨w.heap.size + 1 + 1, 0, none⟩) (by show w.heap.size ≤ w.heap.size + 1 + 1; omega) _).setCell (p := ⟨w.heap.size + 1 + 1, 1, none⟩) (by show w.heap.size ≤ w.heap.size + 1 + 1; omega) _).setCell (p := ⟨w.heap.size + 1 + 1, 2, none⟩) (by show w.heap.size ≤ w.heap.size + 1 + 1; omega) _).setCell (p := ⟨w.heap.size + 1 + 1, 3, none⟩) (by show w.heap.size ≤ w.heap.size + 1 + 1; omega) _), (BoxAt.apart7 (BoxAt.apart7 (BoxAt.apart7 (BoxAt.apart7 (HXR.out.1.below (HDQ.out n)) (by omega)) (by omega)) (by omega)) (by omega)), (BoxAt.apart7 (BoxAt.apart7 (BoxAt.apart7 (BoxAt.apart7 (HXR.out.2.below (HDQ.out n)) (by omega)) (by omega)) (by omega)) (by omega)), heap_set 3 _ (heap_set 2 _ (heap_set 1 _ (heap_set 0 _ (HLR.out.below (HDQ.out n)))))⟩)
    by_cases q_t : ct = tg
    case neg =>
      have d_t : (ct == tg) = false := beq_eq_false_iff_ne.2 q_t
      have HN := hide_ (show (ol.take (k + 1)).foldl (nextStep tg) ((0, 0, 0, 0), false) = ((l0, l1, l2, l3), hs) by rw [HST.out, HQ.out]; simp [q_t])
      clear q_t
      go_upto_region 6 with fail
      go_quiet (fail)
      go_wp2
      go_roundw
      case rel => exact ⟨k + 1, ((l0, l1, l2, l3), hs), by omega, by go_num, rfl, HN, HB.out.trans ((HDQ.out _).mono HB.out.size), ⟨HXR.out.1.below (HDQ.out _), HXR.out.2.below (HDQ.out _)⟩, HLR.out.below (HDQ.out _)⟩
      case measure => simp [intOf]; omega
    have d_t : (ct == tg) = true := beq_iff_eq.2 q_t
    cases hs with
    | false =>
      have HN := hide_ (show (ol.take (k + 1)).foldl (nextStep tg) ((0, 0, 0, 0), false) = ((cn, ct, ca, cr), true) by rw [HST.out, HQ.out]; simp [q_t])
      clear q_t
      go_upto_region 6 with fail
      go_quiet (fail)
      go_wp2
      go_roundw
      case rel => exact ⟨k + 1, ((cn, ct, ca, cr), true), by omega, by go_num, rfl, HN, (H4.out _).1, ⟨(H4.out _).2.1, (H4.out _).2.2.1⟩, (H4.out _).2.2.2⟩
      case measure => simp [intOf]; omega
    | true =>
    by_cases q_n : cn < l0
    case pos =>
      have d_n : decide (cn < l0) = true := decide_eq_true q_n
      have HN := hide_ (show (ol.take (k + 1)).foldl (nextStep tg) ((0, 0, 0, 0), false) = ((cn, ct, ca, cr), true) by rw [HST.out, HQ.out]; simp [q_t, q_n])
      clear q_t q_n
      go_upto_region 6 with fail
      go_quiet (fail)
      go_wp2
      go_roundw
      case rel => exact ⟨k + 1, ((cn, ct, ca, cr), true), by omega, by go_num, rfl, HN, (H4.out _).1, ⟨(H4.out _).2.1, (H4.out _).2.2.1⟩, (H4.out _).2.2.2⟩
      case measure => simp [intOf]; omega
    have d_n : decide (cn < l0) = false := decide_eq_false q_n
    have HN := hide_ (show (ol.take (k + 1)).foldl (nextStep tg) ((0, 0, 0, 0), false) = ((l0, l1, l2, l3), true) by rw [HST.out, HQ.out]; simp [q_t, q_n])
    clear q_t q_n
    go_upto_region 6 with fail
    go_quiet (fail)
    go_wp2
    go_roundw
    case rel => exact ⟨k + 1, ((l0, l1, l2, l3), true), by omega, by go_num, rfl, HN, HB.out.trans ((HDQ.out _).mono HB.out.size), ⟨HXR.out.1.below (HDQ.out _), HXR.out.2.below (HDQ.out _)⟩, HLR.out.below (HDQ.out _)⟩
    case measure => simp [intOf]; omega

end Go.Proofs.YtccfjaefnejjmaaGreat
