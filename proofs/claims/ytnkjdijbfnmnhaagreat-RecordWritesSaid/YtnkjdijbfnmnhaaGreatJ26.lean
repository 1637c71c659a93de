/-
  Texts of this claim put together: Ring1.
-/
import Derived.Test.YtnkjdijbfnmnhaaGreatJ05
import Derived.Test.YtnkjdijbfnmnhaaGreatJ06
import Derived.Test.YtnkjdijbfnmnhaaGreatJ08
import Derived.Test.YtnkjdijbfnmnhaaGreatJ01
import Derived.Deep.RegionHeld
import Derived.Deep.QuietTactic
import Derived.BigQuiet
import Derived.Deep.DeepCutAuto
import Derived.Sort.Grow
/-
  Points in memory; contracts of ring's first, compare, May and what Keepers searches by, and of the reference's less, has and May.
-/
namespace Go.Proofs.YtnkjdijbfnmnhaaGreat
open Go.RowKit

theorem ret_bool9 {a b : Bool} (h : a = b) : Ending.returned (.bool a) = .returned (.bool b) := by rw [h]
theorem dN9 {B : Nat} {w w' : World} (h : Below B w w') (n : Nat) : Below B w (w'.drewN n) := h.trans ⟨rfl, rfl, rfl, Nat.le_refl _, fun _ _ => rfl⟩
theorem u8_lit (n : UInt8) : (n.toNat : Int) ≤ 255 := by have := n.toNat_lt; omega

/-- points as cells -/
def cellsP (p : Pt) : List Value := [.int .u64 (p.1 : Nat), .int .u8 (p.2.toNat : Int)]
def pvP (l : List Pt) : List Value := l.flatMap cellsP
theorem pvP_length (l : List Pt) : (pvP l).length = l.length * 2 := by
  induction l with
  | nil => rfl
  | cons p l ih =>
    show (cellsP p ++ pvP l).length = _
    rw [List.length_append, ih]
    simp [cellsP]
    omega
theorem pvP_append (l m : List Pt) : pvP (l ++ m) = pvP l ++ pvP m := by simp [pvP]
theorem pvP_one (l : List Pt) : ∀ u ∈ pvP l, u.oneCell' = true := by
  intro u hu
  simp only [pvP, cellsP, List.mem_flatMap, List.mem_cons, List.not_mem_nil, or_false] at hu
  obtain ⟨t, _, rfl | rfl⟩ := hu <;> rfl
theorem pvP_get : ∀ (l : List Pt) (k : Nat) (h : k < l.length), (pvP l)[k * 2]? = some (.int .u64 (l[k].1 : Nat)) ∧ (pvP l)[k * 2 + 1]? = some (.int .u8 (l[k].2.toNat : Int)) := by
  intro l
  induction l with
  | nil => intro k h; simp at h
  | cons t l ih =>
    intro k h
    show (cellsP t ++ pvP l)[k * 2]? = _ ∧ (cellsP t ++ pvP l)[k * 2 + 1]? = _
    match k, h with
    | 0, _ => exact ⟨rfl, rfl⟩
    | k + 1, h =>
      have := ih k (by simpa using h)
      rw [show (k + 1) * 2 = k * 2 + 1 + 1 by omega]
      simpa [cellsP] using this
theorem Sees.pt {w : World} {B : Nat} {A : Option Addr} {l : List Pt} {k : Nat} (h : Sees w B A (pvP l)) (hk : k < l.length) :
    ∃ b o, A = some ⟨b, o, none⟩ ∧ b < B ∧ w.cell? ⟨b, o + k * 2, none⟩ = some (.int .u64 (l[k].1 : Nat)) ∧ w.cell? ⟨b, o + k * 2 + 1, none⟩ = some (.int .u8 (l[k].2.toNat : Int)) := by
  obtain ⟨b, o, e, hb, hc⟩ := h.flat (by rw [pvP_length]; omega)
  have := pvP_get l k hk
  exact ⟨b, o, e, hb, hc _ _ this.1, hc _ _ this.2⟩
theorem Sees.u8 {w : World} {B : Nat} {A : Option Addr} {l : List UInt8} {k : Nat} (h : Sees w B A (bv l)) (hk : k < l.length) :
    ∃ b o, A = some ⟨b, o, none⟩ ∧ b < B ∧ w.cell? ⟨b, o + k, none⟩ = some (.int .u8 (l[k].toNat : Int)) := by
  obtain ⟨b, o, e, hb, hc⟩ := h.flat (by rw [bv_length]; omega)
  exact ⟨b, o, e, hb, hc _ _ (by rw [bv_getElem?, List.getElem?_eq_getElem hk]; rfl)⟩

/-! how points stand -/
def cmpP (a b : Pt) : Int := if cmpN a.1 b.1 ≠ 0 then cmpN a.1 b.1 else cmpN a.2.toNat b.2.toNat
theorem orL_cmpP (a b : Pt) : orL [cmpN a.1 b.1, cmpN a.2.toNat b.2.toNat] = cmpP a b := by
  simp only [orL, cmpP]
  by_cases h1 : cmpN a.1 b.1 = 0 <;> by_cases h2 : cmpN a.2.toNat b.2.toNat = 0 <;> simp [h1, h2]
theorem cmpP_lt (a b : Pt) : decide (cmpP a b < 0) = ptLt a b := by
  rw [Bool.eq_iff_iff, decide_eq_true_eq, ptLt_iff]
  unfold cmpP
  rcases cmpN_cases a.1 b.1 with ⟨h, e⟩ | ⟨h, e⟩ | ⟨h, e⟩ <;> rcases cmpN_cases a.2.toNat b.2.toNat with ⟨h', e'⟩ | ⟨h', e'⟩ | ⟨h', e'⟩ <;> rw [e, e'] <;> simp <;> omega

theorem or_two (x y : Int) (g : Nat) (w : World) (hg : w.heap.size = g) :
    Calls Tryz.prog 260 #[.slice (some ⟨g, 0, none⟩) 2 2] (w.alloc (.cells #[.int .i64 x, .int .i64 y] 3)).drew fun e w' =>
      e = .returned (.int .i64 (orL [x, y])) ∧ (w.alloc (.cells #[.int .i64 x, .int .i64 y] 3)).drew = w' := by
  refine or_any [x, y] 2 2 g _ rfl (by omega) fun j hj => ?_
  rw [World.cell?_drew, cell_of_row _ g j _ _ _ (by rw [← hg]; exact heap_alloc_new w _)]
  match j, hj with
  | 0, _ => rfl
  | 1, _ => rfl


theorem contains_take {l : List UInt8} {k : Nat} (x : UInt8) (hk : k < l.length) : (l.take (k + 1)).contains x = ((l.take k).contains x || (l[k] == x)) := by
  rw [List.take_succ_eq_append_getElem hk, Bool.eq_iff_iff, List.contains_iff_mem, Bool.or_eq_true, List.contains_iff_mem, List.mem_append, List.mem_singleton, beq_iff_eq]
  exact or_congr Iff.rfl ⟨Eq.symm, Eq.symm⟩

/-! which nodes may be -/
def badN (l : List UInt8) (k : Nat) : Bool := decide (64 ≤ (l.getD k 0).toNat) || (decide (0 < k) && decide ((l.getD k 0).toNat ≤ (l.getD (k - 1) 0).toNat))
def mayN (l : List UInt8) : Bool := (List.range l.length).all fun k => !badN l k
theorem mayN_bad {l : List UInt8} {k : Nat} (hk : k < l.length) (h : badN l k = true) : mayN l = false := by
  rw [mayN, List.all_eq_false]
  exact ⟨k, List.mem_range.2 hk, by simp [h]⟩
theorem mayN_good {l : List UInt8} (h : ∀ k, k < l.length → badN l k = false) : mayN l = true := by
  rw [mayN, List.all_eq_true]
  intro k hk
  simp [h k (List.mem_range.1 hk)]
theorem badN_zero {l : List UInt8} (hk : 0 < l.length) : badN l 0 = decide (64 ≤ l[0].toNat) := by
  unfold badN
  simp [List.getD_eq_getElem?_getD, List.getElem?_eq_getElem hk]
theorem badN_succ {l : List UInt8} {k : Nat} (hk : k + 1 < l.length) : badN l (k + 1) = (decide (64 ≤ l[k + 1].toNat) || decide (l[k + 1].toNat ≤ l[k].toNat)) := by
  unfold badN
  simp only [List.getD_eq_getElem?_getD, List.getElem?_eq_getElem hk, Nat.add_sub_cancel, List.getElem?_eq_getElem (show k < l.length by omega), Option.getD_some]
  simp

set_option maxRecDepth 100000 in
theorem may9_any (l : List UInt8) (B : Nat) (A : Option Addr) (n c : Nat) (w : World) (hn : l.length = n) (hm : n ≤ maxLen) (h : Sees w B A (bv l)) :
    Calls Tryz.prog 161 #[.slice A n c] w fun e w' => e = .returned (.bool (mayN l)) ∧ w = w' := by
  unfold maxLen at hm
  subst hn
  have HB := hide_ (fun k (hk : k < l.length) (hb : badN l k = true) => mayN_bad hk hb)
  have HG := hide_ (fun (hg : ∀ k, k < l.length → badN l k = false) => mayN_good hg)
  generalize mayN l = r at HB HG ⊢
  go_enter Tryz.func161, Tryz.ntmps161
  go_wp2
  go_loop [7] (fun i => ∃ k : Nat, k ≤ l.length ∧ i = .int .i64 k ∧ Hid (∀ j, j < k → badN l j = false)) (fun i => l.length - (intOf i).toNat)
  case atStart => exact ⟨0, by omega, rfl, hide_ (fun j hj => by omega)⟩
  case round =>
    obtain ⟨k, hk, rfl, HK⟩ := hrel
    by_cases hlt : k < l.length
    · obtain ⟨b, o, rfl, hbB, hck⟩ := h.u8 hlt
      have hx := l[k].toNat_lt
      match k, hk, hlt, hck, HK, hx with
      | 0, hk, hlt, hck, HK, hx =>
        rw [Nat.add_zero] at hck
        have HZ := hide_ (badN_zero hlt)
        by_cases q0 : 64 ≤ l[0].toNat
        · have HR := hide_ (HB.out 0 hlt (by rw [HZ.out]; simp [q0]))
          go_wp2
          go_ret
          exact ⟨ret_bool9 HR.out.symm, rfl⟩
        · have HN := hide_ (show ∀ j, j < 1 → badN l j = false from fun j hj => by
            obtain rfl : j = 0 := by omega
            rw [HZ.out]
            simp [q0])
          go_wp2
          go_round
          case rel => exact ⟨1, by omega, rfl, HN⟩
          case measure => simp [intOf]; omega
      | k + 1, hk, hlt, hck, HK, hx =>
        obtain ⟨b', o', he, -, hcp⟩ := h.u8 (show k < l.length by omega)
        injection he with he
        injection he with he1 he2
        subst he1 he2
        have hy := l[k].toNat_lt
        have HZ := hide_ (badN_succ hlt)
        by_cases q0 : 64 ≤ l[k + 1].toNat
        · have HR := hide_ (HB.out _ hlt (by rw [HZ.out]; simp [q0]))
          go_wp2
          go_ret
          exact ⟨ret_bool9 HR.out.symm, rfl⟩
        · by_cases q1 : l[k + 1].toNat ≤ l[k].toNat
          · have HR := hide_ (HB.out _ hlt (by rw [HZ.out]; simp [q1]))
            go_wp2
            go_ret
            exact ⟨ret_bool9 HR.out.symm, rfl⟩
          · have HN := hide_ (show ∀ j, j < k + 2 → badN l j = false from fun j hj => by
              by_cases hj' : j < k + 1
              · exact HK.out j hj'
              · obtain rfl : j = k + 1 := by omega
                rw [HZ.out]
                simp [q0, q1])
            go_wp2
            go_round
            case rel => exact ⟨k + 2, by omega, by go_num, HN⟩
            case measure => simp [intOf]; omega
    · obtain rfl : k = l.length := by omega
      have HR := hide_ (HG.out HK.out)
      go_wp2
      go_ret
      exact ⟨ret_bool9 HR.out.symm, rfl⟩

set_option maxRecDepth 100000 in
theorem refMay9_any (l : List UInt8) (B : Nat) (A : Option Addr) (n c : Nat) (w : World) (hn : l.length = n) (hm : n ≤ maxLen) (h : Sees w B A (bv l)) (hB : B ≤ w.heap.size) :
    Calls Tryz.prog 130 #[.slice A n c] w fun e w' => e = .returned (.bool (mayN l)) ∧ Below w.heap.size w w' := by
  unfold maxLen at hm
  subst hn
  have HB := hide_ (fun k (hk : k < l.length) (hb : badN l k = true) => mayN_bad hk hb)
  have HG := hide_ (fun (hg : ∀ k, k < l.length → badN l k = false) => mayN_good hg)
  have HS := hide_ h
  generalize mayN l = r at HB HG ⊢
  go_enter Tryz.func130, Tryz.ntmps130
  go_wp2
  go_loopw [6] (fun i wx => ∃ k : Nat, k ≤ l.length ∧ i = .int .i64 k ∧ Below w.heap.size w wx ∧ Hid (∀ j, j < k → badN l j = false)) (fun i _ => l.length - (intOf i).toNat)
  case atStart => exact ⟨0, by omega, rfl, Below.refl _ _, hide_ (fun j hj => by omega)⟩
  case round =>
    obtain ⟨k, hk, rfl, hb, HK⟩ := hrel
    by_cases hlt : k < l.length
    · obtain ⟨b, o, rfl, hbB, hck⟩ := (HS.out.below (hb.mono hB)).u8 hlt
      have hx := l[k].toNat_lt
      match k, hk, hlt, hck, HK, hx with
      | 0, hk, hlt, hck, HK, hx =>
        rw [Nat.add_zero] at hck
        have HZ := hide_ (badN_zero hlt)
        by_cases q0 : 63 < l[0].toNat
        · have hd : decide ((63 : Int) < (l[0].toNat : Int)) = true := by simp; omega
          have HR := hide_ (HB.out 0 hlt (by rw [HZ.out]; simp; omega))
          go_upto_region 4 with fail
          go_quiet (fail)
          go_wp2
          go_ret
          exact ⟨ret_bool9 HR.out.symm, dN9 hb _⟩
        · have HN := hide_ (show ∀ j, j < 1 → badN l j = false from fun j hj => by
            obtain rfl : j = 0 := by omega
            rw [HZ.out]
            simp
            omega)
          have hd : decide ((63 : Int) < (l[0].toNat : Int)) = false := by simp; omega
          go_upto_region 4 with fail
          go_quiet (fail)
          go_wp2
          go_round
          case rel => exact ⟨1, by omega, rfl, dN9 hb _, HN⟩
          case measure => simp [intOf]; omega
      | k + 1, hk, hlt, hck, HK, hx =>
        obtain ⟨b', o', he, -, hcp⟩ := (HS.out.below (hb.mono hB)).u8 (show k < l.length by omega)
        injection he with he
        injection he with he1 he2
        subst he1 he2
        have hy := l[k].toNat_lt
        have HZ := hide_ (badN_succ hlt)
        by_cases q0 : 63 < l[k + 1].toNat
        · have hd : decide ((63 : Int) < (l[k + 1].toNat : Int)) = true := by simp; omega
          have HR := hide_ (HB.out _ hlt (by rw [HZ.out]; simp; omega))
          go_upto_region 4 with fail
          go_quiet (fail)
          go_wp2
          go_ret
          exact ⟨ret_bool9 HR.out.symm, dN9 hb _⟩
        · have hd : decide ((63 : Int) < (l[k + 1].toNat : Int)) = false := by simp; omega
          by_cases q1 : l[k + 1].toNat ≤ l[k].toNat
          · have hd1 : decide (l[k + 1].toNat ≤ l[k].toNat) = true := by simp [q1]
            have HR := hide_ (HB.out _ hlt (by rw [HZ.out]; simp; omega))
            go_upto_region 4 with fail
            go_quiet (fail)
            go_wp2
            go_ret
            exact ⟨ret_bool9 HR.out.symm, dN9 hb _⟩
          · have hd1 : decide (l[k + 1].toNat ≤ l[k].toNat) = false := by simp [q1]
            have HN := hide_ (show ∀ j, j < k + 2 → badN l j = false from fun j hj => by
              by_cases hj' : j < k + 1
              · exact HK.out j hj'
              · obtain rfl : j = k + 1 := by omega
                rw [HZ.out]
                simp
                omega)
            go_upto_region 4 with fail
            go_quiet (fail)
            go_wp2
            go_round
            case rel => exact ⟨k + 2, by omega, by go_num, dN9 hb _, HN⟩
            case measure => simp [intOf]; omega
    · obtain rfl : k = l.length := by omega
      have HR := hide_ (HG.out HK.out)
      go_wp2
      go_ret
      exact ⟨ret_bool9 HR.out.symm, hb⟩
end Go.Proofs.YtnkjdijbfnmnhaaGreat
