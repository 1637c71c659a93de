/-
  Texts of this claim put together: Conf1, ConfM, Conf2, Conf3.
-/
import Derived.Test.YtnkjdijbfnmnhaaGreatJ26
import Derived.Test.YtnkjdijbfnmnhaaGreatJ05
import Derived.WalkSpells
import Derived.Laws.Bits128
/-
  Contracts of counting bits, of conf's set, Between, listsOf and rings, and of the reference's Has, others, bit and count.
-/
namespace Go.Proofs.YtnkjdijbfnmnhaaGreat
open Go.RowKit

theorem u64_and_lit (a b : Nat) (c : Int) (hc : c = (b : Int)) (ha : a < 18446744073709551616) (hb : b < 18446744073709551616) : bits .and .u64 (a : Int) c = ((a &&& b : Nat) : Int) := by
  rw [hc, u64_and_nat a b ha hb]
theorem u64_and_div (a k b : Nat) (d c : Int) (hd : d = (k : Int)) (hc : c = (b : Int)) (ha : a < 18446744073709551616) (hb : b < 18446744073709551616) : bits .and .u64 ((a : Int) / d) c = ((a / k &&& b : Nat) : Int) := by
  rw [hd, ← Int.natCast_ediv]
  exact u64_and_lit _ _ _ hc (Nat.lt_of_le_of_lt (Nat.div_le_self _ _) ha) hb

theorem add64 (a b : Nat) (h : a + b < 18446744073709551616) : IntKind.u64.wrap ((a : Int) + (b : Int)) = ((a + b : Nat) : Int) := by
  rw [IntKind.wrap_u64]
  omega
theorem addDiv64 (a k : Nat) (d : Int) (hd : d = (k : Int)) (h : a + a / k < 18446744073709551616) : IntKind.u64.wrap ((a : Int) + (a : Int) / d) = ((a + a / k : Nat) : Int) := by
  rw [hd, ← Int.natCast_ediv]
  exact add64 _ _ h
theorem ones_facts (x : Nat) (hx : x < 18446744073709551616) : ∃ y z v v1 v2 v3 : Nat,
    IntKind.u64.wrap (bits .and .u64 ((x : Int) / 2) 6148914691236517205 + bits .and .u64 (x : Int) 6148914691236517205) = (y : Int) ∧
    IntKind.u64.wrap (bits .and .u64 ((y : Int) / 4) 3689348814741910323 + bits .and .u64 (y : Int) 3689348814741910323) = (z : Int) ∧
    bits .and .u64 (IntKind.u64.wrap ((z : Int) / 16 + (z : Int))) 1085102592571150095 = (v : Int) ∧
    IntKind.u64.wrap ((v : Int) + (v : Int) / 256) = (v1 : Int) ∧ IntKind.u64.wrap ((v1 : Int) + (v1 : Int) / 65536) = (v2 : Int) ∧ IntKind.u64.wrap ((v2 : Int) + (v2 : Int) / 4294967296) = (v3 : Int) ∧
    v3 ≤ 4000000000000000000 ∧ v3 % 128 = popN 64 x := by
  have hA := onesA8_le x
  have hB := onesAB8_le x
  obtain ⟨v, hv, b1, b2, b3, b4, b5⟩ := ones_all x
  refine ⟨onesA 8 x, onesB 8 (onesA 8 x), v, v + v / 256, (v + v / 256) + (v + v / 256) / 65536, _, ?_, ?_, ?_, addDiv64 v 256 _ rfl (by omega), addDiv64 _ 65536 _ rfl (by omega), addDiv64 _ 4294967296 _ rfl (by omega), b4, b5⟩
  · rw [u64_and_div x 2 6148914691236517205 2 6148914691236517205 rfl rfl hx (by omega), u64_and_lit x 6148914691236517205 6148914691236517205 rfl hx (by omega), add64 _ _ (by rw [onesA8]; omega), onesA8]
  · rw [u64_and_div (onesA 8 x) 4 3689348814741910323 4 3689348814741910323 rfl rfl (by omega) (by omega), u64_and_lit (onesA 8 x) 3689348814741910323 3689348814741910323 rfl (by omega) (by omega), add64 _ _ (by rw [onesB8]; omega), onesB8]
  · have e : IntKind.u64.wrap (((onesB 8 (onesA 8 x) : Nat) : Int) / 16 + ((onesB 8 (onesA 8 x) : Nat) : Int)) = ((onesB 8 (onesA 8 x) / 16 + onesB 8 (onesA 8 x) : Nat) : Int) := by
      rw [IntKind.wrap_u64]
      omega
    rw [e, u64_and_lit _ 1085102592571150095 1085102592571150095 rfl (by omega) (by omega), onesC8, hv]

set_option maxRecDepth 100000 in
theorem ones_any (x : Nat) (w : World) (hx : x < 18446744073709551616) : Calls Tryz.prog 163 #[.int .u64 x] w fun e w' => e = .returned (.int .i64 (popN 64 x : Nat)) ∧ w' = w := by
  obtain ⟨y, z, v, v1, v2, v3, h1, h2, h3, h4, h5, h6, h7, h8⟩ := ones_facts x hx
  go_enter Tryz.func163, Tryz.ntmps163
  have h9 : bits .and .i64 (v3 : Int) 127 = ((popN 64 x : Nat) : Int) := by
    rw [i64_and127, ← h8]
    omega
  clear h8
  go_wp2
  go_ret
  exact ⟨rfl, rfl⟩
theorem shl_bit (n : UInt8) : IntKind.u64.wrap ((2 : Int) ^ min n.toNat 64) = ((bitN n : Nat) : Int) := by
  rw [IntKind.wrap_u64, bitN]
  have e : ((2 : Int) ^ min n.toNat 64) = ((2 ^ min n.toNat 64 : Nat) : Int) := by simp
  rw [e, show (18446744073709551616 : Int) = ((18446744073709551616 : Nat) : Int) from rfl, ← Int.natCast_emod]
  congr 1
  rcases Nat.lt_or_ge n.toNat 64 with h | h
  · rw [Nat.min_eq_left (by omega)]
  · rw [Nat.min_eq_right h, show n.toNat = 64 + (n.toNat - 64) by omega, Nat.pow_add, show (18446744073709551616 : Nat) = 2 ^ 64 from rfl, Nat.mul_mod_right, Nat.mod_self]
theorem val_u64c {a b : Int} (h : a = b) : Value.int .u64 a = .int .u64 b := by rw [h]

set_option maxRecDepth 100000 in
theorem set_any (l : List UInt8) (B : Nat) (A : Option Addr) (n c : Nat) (w : World) (hn : l.length = n) (hm : n ≤ maxLen) (h : Sees w B A (bv l)) :
    Calls Tryz.prog 164 #[.slice A n c] w fun e w' => e = .returned (.int .u64 (setN l : Nat)) ∧ w' = w := by
  unfold maxLen at hm
  subst hn
  have HST := hide_ (fun k (hk : k < l.length) => setN_take l k hk)
  have HFIN := hide_ (show setN (l.take l.length) = setN l by rw [List.take_length])
  go_enter Tryz.func164, Tryz.ntmps164
  go_wp2
  go_loop [3, 8] (fun r i => ∃ k : Nat, k ≤ l.length ∧ i = .int .i64 k ∧ r = .int .u64 (setN (l.take k) : Nat)) (fun _ i => l.length - (intOf i).toNat)
  case atStart => exact ⟨0, by omega, rfl, rfl⟩
  case round =>
    obtain ⟨k, hk, rfl, rfl⟩ := hrel
    by_cases hlt : k < l.length
    · obtain ⟨b, o, rfl, hbB, hck⟩ := h.u8 hlt
      have hbt := l[k].toNat_lt
      have hst := HST.out k hlt
      have hlt2 := setN_lt (l.take k)
      have HE := hide_ (show bits .or .u64 ((setN (l.take k) : Nat) : Int) ((bitN l[k] : Nat) : Int) = ((setN (l.take (k + 1)) : Nat) : Int) by
        rw [u64_or_nat _ _ hlt2 (bitN_lt _), hst])
      clear hst hlt2
      have hsb := shl_bit l[k]
      go_wp2
      go_round
      case rel => exact ⟨k + 1, by omega, by go_num, val_u64c HE.out⟩
      case measure => simp [intOf]; omega
    · obtain rfl : k = l.length := by omega
      rw [HFIN.out]
      go_wp2
      go_ret
      exact ⟨rfl, rfl⟩

/-! configurations -/
/-- a row of nodes in memory -/
structure NdM where
  A : Option Addr
  c : Nat
  l : List UInt8
def NdM.v (x : NdM) : Value := .slice x.A x.l.length x.c
def NdM.ok (w : World) (B : Nat) (x : NdM) : Prop := x.l.length ≤ 100 ∧ Sees w B x.A (bv x.l)
theorem NdM.ok.below {w w' : World} {B : Nat} {x : NdM} (h : NdM.ok w B x) (hb : Below B w w') : NdM.ok w' B x := ⟨h.1, h.2.below hb⟩
theorem NdM.ok.more {w : World} {B B' : Nat} {x : NdM} (h : NdM.ok w B x) (hb : B ≤ B') : NdM.ok w B' x := ⟨h.1, h.2.more hb⟩
def cfV (C : Nat) (x y : NdM) : Value := .agg #[.int .u64 C, x.v, y.v]
/-- on whose rings keepers are -/
def ringsN {α : Type} (C : Nat) (a b : α) : List α := if C % 2 = 1 then [a, b] else [b]

set_option maxRecDepth 100000 in
theorem Between_any (C : Nat) (x y : NdM) (w : World) :
    Calls Tryz.prog 162 #[cfV C x y] w fun e w' => e = .returned (.bool (decide (C % 2 = 1))) ∧ Below w.heap.size w w' := by
  obtain ⟨A1, c1, l1⟩ := x
  obtain ⟨A2, c2, l2⟩ := y
  simp only [cfV, NdM.v]
  have HB := hide_ ((Below.refl w.heap.size w).alloc (Nat.le_refl _) (.cells #[.int .u64 C, .slice A1 l1.length c1, .slice A2 l2.length c2] 52))
  go_enter Tryz.func162, Tryz.ntmps162
  go_wp2
  go_ret
  exact ⟨ret_bool9 (by rw [Bool.eq_iff_iff]; simp; omega), HB.out⟩

set_option maxRecDepth 100000 in
theorem listsOf_any (C : Nat) (x y : NdM) (w : World) :
    Calls Tryz.prog 121 #[cfV C x y] w fun e w' => e = .returned (.agg #[x.v, y.v]) ∧ Below w.heap.size w w' := by
  obtain ⟨A1, c1, l1⟩ := x
  obtain ⟨A2, c2, l2⟩ := y
  simp only [cfV, NdM.v]
  go_enter Tryz.func121, Tryz.ntmps121
  go_wp2
  refine bodyPost_ret (v := .agg #[.slice A1 l1.length c1, .slice A2 l2.length c2]) (by simp [results, Tryz.results121, go_sem]) rfl ?_
  exact ⟨rfl, ((Below.refl _ _).alloc (Nat.le_refl _) _).alloc (by simp) _⟩

set_option maxRecDepth 100000 in
theorem rings_any (C : Nat) (x y : NdM) (w : World) :
    Calls Tryz.prog 160 #[cfV C x y] w fun e w' => ∃ g o k : Nat, e = .returned (.slice (some ⟨g, o, none⟩) k k) ∧ (ringsN C x y).length = k ∧ w.heap.size ≤ g ∧ g < w'.heap.size ∧
      (∀ j z, (ringsN C x y)[j]? = some z → w'.cell? ⟨g, o + j, none⟩ = some z.v) ∧ Below w.heap.size w w' := by
  have HL := hide_ (fun u => listsOf_any C x y u)
  have HT := hide_ (fun u => Between_any C x y u)
  obtain ⟨A1, c1, l1⟩ := x
  obtain ⟨A2, c2, l2⟩ := y
  have HR := hide_ (show ringsN C (⟨A1, c1, l1⟩ : NdM) ⟨A2, c2, l2⟩ = if C % 2 = 1 then [⟨A1, c1, l1⟩, ⟨A2, c2, l2⟩] else [⟨A2, c2, l2⟩] from rfl)
  generalize ringsN C (⟨A1, c1, l1⟩ : NdM) ⟨A2, c2, l2⟩ = rs at HR ⊢
  simp only [cfV, NdM.v] at HL HT ⊢
  have HB0 := hide_ ((Below.refl w.heap.size w).alloc (Nat.le_refl _) (.cells #[.int .u64 C, .slice A1 l1.length c1, .slice A2 l2.length c2] 52))
  have HX0 := hide_ (BoxAt.new w #[.int .u64 C, .slice A1 l1.length c1, .slice A2 l2.length c2] 52)
  obtain ⟨W0, hW0⟩ : ∃ W0, w.alloc (.cells #[.int .u64 C, .slice A1 l1.length c1, .slice A2 l2.length c2] 52) = W0 := ⟨_, rfl⟩
  rw [hW0] at HB0 HX0
  have HW0 := hide_ hW0
  have hs0 : w.heap.size < W0.heap.size := HX0.out.lt
  clear hW0
  go_enter Tryz.func160, Tryz.ntmps160
  go_wp2_with fail
  rw [HW0.out]
  have c0 := HX0.out.cell 0
  have c1' := HX0.out.cell 1
  have c2' := HX0.out.cell 2
  simp at c0 c1' c2'
  go_wp2_with fail
  refine (HL.out _).mono ?_
  rintro e w1 ⟨rfl, hb1⟩
  have HB1 := hide_ (HB0.out.trans (hb1.mono HB0.out.size))
  have HX1 := hide_ (HX0.out.below hb1)
  clear hb1 c0 c1' c2'
  have HX2 := hide_ (HX1.out.alloc (.cells #[.slice A1 l1.length c1, .slice A2 l2.length c2] 202))
  have HY2 := hide_ (BoxAt.new w1 #[.slice A1 l1.length c1, .slice A2 l2.length c2] 202)
  have HB2 := hide_ (HB1.out.alloc HB1.out.size (.cells #[.slice A1 l1.length c1, .slice A2 l2.length c2] 202))
  obtain ⟨W2, hW2⟩ : ∃ W2, w1.alloc (.cells #[.slice A1 l1.length c1, .slice A2 l2.length c2] 202) = W2 := ⟨_, rfl⟩
  rw [hW2] at HX2 HY2 HB2
  have HW2 := hide_ hW2
  clear hW2
  have hg1 : w.heap.size ≤ w1.heap.size := HB1.out.size
  obtain ⟨g, hg⟩ : ∃ g, w1.heap.size = g := ⟨_, rfl⟩
  have HG := hide_ hg
  rw [hg] at HY2 hg1
  clear hg
  have hgW : g < W2.heap.size := HY2.out.lt
  have hwW : w.heap.size < W2.heap.size := HX2.out.lt
  have c0 := HX2.out.cell 0
  have c1' := HX2.out.cell 1
  have c2' := HX2.out.cell 2
  simp at c0 c1' c2'
  have d0 := HY2.out.cell 0
  have d1 := HY2.out.cell 1
  simp at d0 d1
  go_upto_region 2 with fail
  rw [HW2.out, HG.out]
  have HTT := HT.out W2
  by_cases hC : C % 2 = 1
  · have hd : decide (C % 2 = 1) = true := by simp [hC]
    rw [hd] at HTT
    have HTT := hide_ HTT
    rw [if_pos hC] at HR
    clear hC hd
    go_wp2_with fail
    refine HTT.out.mono ?_
    rintro e w3 ⟨rfl, hb3⟩
    have HB3 := hide_ (HB2.out.trans (hb3.mono HB2.out.size))
    have HD3 := hide_ (HY2.out.below hb3)
    have hgw : g < w3.heap.size := HD3.out.lt
    clear hb3
    go_wp2
    go_ret
    refine ⟨g, 0, 2, rfl, by rw [HR.out]; rfl, hg1, hgw, fun j z hz => ?_, HB3.out⟩
    rw [HR.out] at hz
    rw [HD3.out.cell]
    rcases j with _ | _ | j
    · simp at hz; subst hz; simp
    · simp at hz; subst hz; simp
    · simp at hz
  · have hd : decide (C % 2 = 1) = false := by simp; omega
    rw [hd] at HTT
    have HTT := hide_ HTT
    rw [if_neg hC] at HR
    clear hC hd
    go_wp2_with fail
    refine HTT.out.mono ?_
    rintro e w3 ⟨rfl, hb3⟩
    have HB3 := hide_ (HB2.out.trans (hb3.mono HB2.out.size))
    have HD3 := hide_ (HY2.out.below hb3)
    have hgw : g < w3.heap.size := HD3.out.lt
    clear hb3
    go_wp2
    go_ret
    refine ⟨g, 1, 1, rfl, by rw [HR.out]; rfl, hg1, hgw, fun j z hz => ?_, HB3.out⟩
    rw [HR.out] at hz
    rw [HD3.out.cell]
    rcases j with _ | j
    · simp at hz; subst hz; simp
    · simp at hz

/-! the reference's -/
theorem drew_more {w w' : World} (h : ∃ q, w' = w.drewN q) (n : Nat) : ∃ q, w'.drewN n = w.drewN q := by
  obtain ⟨q, rfl⟩ := h
  exact ⟨q + n, by simp [World.drewN, Nat.add_assoc]⟩

set_option maxRecDepth 100000 in
theorem refMay9q_any (l : List UInt8) (B : Nat) (A : Option Addr) (n c : Nat) (w : World) (hn : l.length = n) (hm : n ≤ maxLen) (h : Sees w B A (bv l)) :
    Calls Tryz.prog 130 #[.slice A n c] w fun e w' => e = .returned (.bool (mayN l)) ∧ ∃ q, w' = w.drewN q := by
  unfold maxLen at hm
  subst hn
  have HB := hide_ (fun k (hk : k < l.length) (hb : badN l k = true) => mayN_bad hk hb)
  have HG := hide_ (fun (hg : ∀ k, k < l.length → badN l k = false) => mayN_good hg)
  have HS := hide_ h
  have B0 := hide_ (fun (u : World) (hu : ∃ q, u = w.drewN q) => show Below B w u from by obtain ⟨q, rfl⟩ := hu; exact dN9 (Below.refl _ _) q)
  generalize mayN l = r at HB HG ⊢
  go_enter Tryz.func130, Tryz.ntmps130
  go_wp2
  go_loopw [6] (fun i wx => ∃ k : Nat, k ≤ l.length ∧ i = .int .i64 k ∧ (∃ q, wx = w.drewN q) ∧ Hid (∀ j, j < k → badN l j = false)) (fun i _ => l.length - (intOf i).toNat)
  case atStart => exact ⟨0, by omega, rfl, ⟨0, rfl⟩, hide_ (fun j hj => by omega)⟩
  case round =>
    obtain ⟨k, hk, rfl, hb, HK⟩ := hrel
    by_cases hlt : k < l.length
    · obtain ⟨b, o, rfl, hbB, hck⟩ := (HS.out.below (B0.out _ hb)).u8 hlt
      have hx := l[k].toNat_lt
      match k, hk, hlt, hck, HK, hx with
      | 0, hk, hlt, hck, HK, hx =>
        rw [Nat.add_zero] at hck
        have HZ := hide_ (badN_zero hlt)
        by_cases q0 : 63 < l[0].toNat
        · have hd : decide ((63 : Int) < (l[0].toNat : Int)) = true := by simp; omega
          have HR := hide_ (HB.out 0 hlt (by rw [HZ.out]; simp; omega))
          go_upto_region 4 with fail
          go_quiet (fail)
          go_wp2
          go_ret
          exact ⟨ret_bool9 HR.out.symm, drew_more hb _⟩
        · have HN := hide_ (show ∀ j, j < 1 → badN l j = false from fun j hj => by
            obtain rfl : j = 0 := by omega
            rw [HZ.out]
            simp
            omega)
          have hd : decide ((63 : Int) < (l[0].toNat : Int)) = false := by simp; omega
          go_upto_region 4 with fail
          go_quiet (fail)
          go_wp2
          go_round
          case rel => exact ⟨1, by omega, rfl, drew_more hb _, HN⟩
          case measure => simp [intOf]; omega
      | k + 1, hk, hlt, hck, HK, hx =>
        obtain ⟨b', o', he, -, hcp⟩ := (HS.out.below (B0.out _ hb)).u8 (show k < l.length by omega)
        injection he with he
        injection he with he1 he2
        subst he1 he2
        have hy := l[k].toNat_lt
        have HZ := hide_ (badN_succ hlt)
        by_cases q0 : 63 < l[k + 1].toNat
        · have hd : decide ((63 : Int) < (l[k + 1].toNat : Int)) = true := by simp; omega
          have HR := hide_ (HB.out _ hlt (by rw [HZ.out]; simp; omega))
          go_upto_region 4 with fail
          go_quiet (fail)
          go_wp2
          go_ret
          exact ⟨ret_bool9 HR.out.symm, drew_more hb _⟩
        · have hd : decide ((63 : Int) < (l[k + 1].toNat : Int)) = false := by simp; omega
          by_cases q1 : l[k + 1].toNat ≤ l[k].toNat
          · have hd1 : decide (l[k + 1].toNat ≤ l[k].toNat) = true := by simp [q1]
            have HR := hide_ (HB.out _ hlt (by rw [HZ.out]; simp; omega))
            go_upto_region 4 with fail
            go_quiet (fail)
            go_wp2
            go_ret
            exact ⟨ret_bool9 HR.out.symm, drew_more hb _⟩
          · have hd1 : decide (l[k + 1].toNat ≤ l[k].toNat) = false := by simp [q1]
            have HN := hide_ (show ∀ j, j < k + 2 → badN l j = false from fun j hj => by
              by_cases hj' : j < k + 1
              · exact HK.out j hj'
              · obtain rfl : j = k + 1 := by omega
                rw [HZ.out]
                simp
                omega)
            go_upto_region 4 with fail
            go_quiet (fail)
            go_wp2
            go_round
            case rel => exact ⟨k + 2, by omega, by go_num, drew_more hb _, HN⟩
            case measure => simp [intOf]; omega
    · obtain rfl : k = l.length := by omega
      have HR := hide_ (HG.out HK.out)
      go_wp2
      go_ret
      exact ⟨ret_bool9 HR.out.symm, hb⟩

set_option maxRecDepth 100000 in
theorem has10_any (l : List UInt8) (x : UInt8) (B : Nat) (A : Option Addr) (n c : Nat) (w : World) (hn : l.length = n) (hm : n ≤ maxLen) (h : Sees w B A (bv l)) :
    Calls Tryz.prog 203 #[.slice A n c, .int .u8 (x.toNat : Int)] w fun e w' => e = .returned (.bool (l.contains x)) ∧ w = w' := by
  unfold maxLen at hm
  subst hn
  have HT0 := hide_ (show ∀ k (h : k < l.length), l[k] = x → l.contains x = true from fun k h e => List.contains_iff_mem.2 (e ▸ List.getElem_mem h))
  have HF0 := hide_ (show (l.take l.length).contains x = l.contains x by rw [List.take_length])
  generalize l.contains x = r at HT0 HF0 ⊢
  go_enter Tryz.func203, Tryz.ntmps203
  go_wp2
  go_loop [8] (fun i => ∃ k : Nat, k ≤ l.length ∧ i = .int .i64 k ∧ Hid ((l.take k).contains x = false)) (fun i => l.length - (intOf i).toNat)
  case atStart => exact ⟨0, by omega, rfl, hide_ rfl⟩
  case round =>
    obtain ⟨k, hk, rfl, HK⟩ := hrel
    by_cases hlt : k < l.length
    · obtain ⟨b, o, rfl, hbB, hck⟩ := h.u8 hlt
      have HC := hide_ (contains_take x hlt)
      by_cases hx : l[k] = x
      · have HT := hide_ (HT0.out k hlt hx)
        have hd : ((l[k].toNat : Int) == (x.toNat : Int)) = true := by rw [hx]; simp
        clear hx
        go_wp2
        go_ret
        exact ⟨ret_bool9 HT.out.symm, rfl⟩
      · have hd : ((l[k].toNat : Int) == (x.toNat : Int)) = false := by
          rw [beq_eq_false_iff_ne]
          intro e
          exact hx (UInt8.toNat_inj.1 (by omega))
        have HX := hide_ (show (l[k] == x) = false from beq_eq_false_iff_ne.2 hx)
        clear hx
        go_wp2
        go_round
        case rel => exact ⟨k + 1, by omega, by go_num, hide_ (by rw [HC.out, HK.out, HX.out]; rfl)⟩
        case measure => simp [intOf]; omega
    · obtain rfl : k = l.length := by omega
      have HR := hide_ (HF0.out.symm.trans HK.out)
      go_wp2
      go_ret
      exact ⟨ret_bool9 HR.out.symm, rfl⟩

theorem othN_take (l m : List UInt8) {k : Nat} (hk : k < l.length) : othN (l.take (k + 1)) m = othN (l.take k) m + if m.contains l[k] then 0 else 1 := by
  rw [othN, othN, List.take_succ_eq_append_getElem hk, List.countP_append, List.countP_singleton]
  cases m.contains l[k] <;> rfl
theorem othN_le (l m : List UInt8) : othN l m ≤ l.length := List.countP_le_length

set_option maxRecDepth 100000 in
theorem others_any (x y : NdM) (B : Nat) (w : World) (hx : NdM.ok w B x) (hy : NdM.ok w B y) :
    Calls Tryz.prog 131 #[x.v, y.v] w fun e w' => e = .returned (.int .i64 (othN x.l y.l : Nat)) ∧ w' = w := by
  obtain ⟨A, c, l⟩ := x
  obtain ⟨A2, c2, m⟩ := y
  obtain ⟨hl, hs⟩ := hx
  obtain ⟨hl2, hs2⟩ := hy
  simp only [NdM.v] at hl hs hl2 hs2 ⊢
  have HH := hide_ (fun (z : UInt8) => has10_any m z B A2 m.length c2 w rfl (by unfold maxLen; omega) hs2)
  have HST := hide_ (fun k (hk : k < l.length) => othN_take l m hk)
  have HFIN := hide_ (show othN (l.take l.length) m = othN l m by rw [List.take_length])
  have HLE := hide_ (fun k => show othN (l.take k) m ≤ 100 from Nat.le_trans (othN_le _ _) (by rw [List.length_take]; omega))
  go_enter Tryz.func131, Tryz.ntmps131
  go_wp2
  go_loop [5, 9] (fun r i => ∃ k : Nat, k ≤ l.length ∧ i = .int .i64 k ∧ r = .int .i64 (othN (l.take k) m : Nat)) (fun _ i => l.length - (intOf i).toNat)
  case atStart => exact ⟨0, by omega, rfl, rfl⟩
  case round =>
    obtain ⟨k, hk, rfl, rfl⟩ := hrel
    have hle := HLE.out k
    by_cases hlt : k < l.length
    · obtain ⟨b, o, rfl, hbB, hck⟩ := hs.u8 hlt
      have HS := hide_ (HST.out k hlt)
      have HQ := hide_ (HH.out l[k])
      obtain ⟨q, hq⟩ : ∃ q, m.contains l[k] = q := ⟨_, rfl⟩
      rw [hq] at HS HQ
      clear hq
      cases q with
      | true =>
        go_wp2_with fail
        refine HQ.out.mono ?_
        rintro e w1 ⟨rfl, rfl⟩
        go_wp2
        go_round
        case rel => exact ⟨k + 1, by omega, by go_num, by rw [HS.out]; rfl⟩
        case measure => simp [intOf]; omega
      | false =>
        go_wp2_with fail
        refine HQ.out.mono ?_
        rintro e w1 ⟨rfl, rfl⟩
        go_wp2
        go_round
        case rel => exact ⟨k + 1, by omega, by go_num, by rw [HS.out]; go_num⟩
        case measure => simp [intOf]; omega
    · obtain rfl : k = l.length := by omega
      rw [HFIN.out]
      go_wp2
      go_ret
      exact ⟨rfl, rfl⟩

theorem bit_test (s n : Nat) : decide (s / 2 ^ n % 2 = 1) = s.testBit n := by
  rw [Nat.testBit_eq_decide_div_mod_eq]

theorem cntN_take (l : List UInt8) (s : Nat) {k : Nat} (hk : k < l.length) : cntN (l.take (k + 1)) s = cntN (l.take k) s + if s.testBit l[k].toNat then 1 else 0 := by
  rw [cntN, cntN, List.take_succ_eq_append_getElem hk, List.countP_append, List.countP_singleton]
theorem cntN_le (l : List UInt8) (s : Nat) : cntN l s ≤ l.length := List.countP_le_length

end Go.Proofs.YtnkjdijbfnmnhaaGreat
/-
  Plain lemmas on configurations, quorums and steps. Nothing here speaks of a program.
-/
namespace Go.Proofs.YtnkjdijbfnmnhaaGreat

theorem mayN_iff (l : List UInt8) : mayN l = true ↔ (∀ n ∈ l, n.toNat < 64) ∧ l.Pairwise (fun a b => a.toNat < b.toNat) := by
  constructor
  · intro h
    have hb : ∀ k, k < l.length → badN l k = false := by
      intro k hk
      cases hq : badN l k with
      | false => rfl
      | true => rw [mayN_bad hk hq] at h; cases h
    have h64 : ∀ k (hk : k < l.length), l[k].toNat < 64 := by
      intro k hk
      have := hb k hk
      rcases k with _ | k
      · rw [badN_zero hk] at this
        simpa using this
      · rw [badN_succ hk, Bool.or_eq_false_iff] at this
        simpa using this.1
    have hup : ∀ k (hk : k + 1 < l.length), l[k].toNat < l[k + 1].toNat := by
      intro k hk
      have := hb (k + 1) hk
      rw [badN_succ hk, Bool.or_eq_false_iff] at this
      simpa using this.2
    refine ⟨fun n hn => ?_, List.pairwise_iff_getElem.2 fun i j hi hj hij => ?_⟩
    · obtain ⟨k, hk, rfl⟩ := List.getElem_of_mem hn
      exact h64 k hk
    · obtain ⟨d, rfl⟩ : ∃ d, j = i + d + 1 := ⟨j - i - 1, by omega⟩
      clear hij
      induction d with
      | zero => exact hup i hj
      | succ d ih => exact Nat.lt_trans (ih (by omega)) (hup (i + d + 1) hj)
  · rintro ⟨h1, h2⟩
    refine mayN_good fun k hk => ?_
    rcases k with _ | k
    · rw [badN_zero hk]
      have := h1 _ (List.getElem_mem hk)
      simpa using this
    · rw [badN_succ hk, Bool.or_eq_false_iff]
      have := h1 _ (List.getElem_mem hk)
      have h3 := List.pairwise_iff_getElem.1 h2 k (k + 1) (by omega) hk (by omega)
      exact ⟨by simpa using this, by simpa using h3⟩
theorem mayN_64 {l : List UInt8} (h : mayN l = true) : ∀ n ∈ l, n.toNat < 64 := ((mayN_iff l).1 h).1
theorem mayN_nodup {l : List UInt8} (h : mayN l = true) : l.Nodup := ((mayN_iff l).1 h).2.imp fun hab e => by subst e; omega
theorem mayN_len {l : List UInt8} (h : mayN l = true) : l.length ≤ 64 := by
  have h1 := count_nodes l (mayN_nodup h) (mayN_64 h) (fun _ => true)
  rw [List.countP_eq_length.2 (fun _ _ => rfl)] at h1
  rw [← h1]
  exact Nat.le_trans List.countP_le_length (by simp)
theorem mayN_mem {l m : List UInt8} (hl : mayN l = true) (hm : mayN m = true) (h : ∀ x, x ∈ l ↔ x ∈ m) : l = m := by
  have hp := nub_perm (mayN_nodup hl) (mayN_nodup hm) h
  exact hp.eq_of_pairwise (fun a b _ _ h k => by omega) ((mayN_iff l).1 hl).2 ((mayN_iff m).1 hm).2

/-! keepers -/
theorem ofM_nodup (l : List UInt8) (key : UInt8) : (ofM l key).Nodup := by
  rw [ofM, (upB_perm _).nodup_iff]
  exact keepM_nodup _ _ _
theorem ofM_sub {l : List UInt8} {key x : UInt8} (h : x ∈ ofM l key) : x ∈ l := by
  rw [ofM, (upB_perm _).mem_iff, keepM_eq] at h
  exact (mem_ringM l x).1 ((mem_allK _ _ x).1 (List.mem_of_mem_take h))
theorem ofM_pos {l : List UInt8} (key : UInt8) (h : 0 < l.length) : 0 < (ofM l key).length := by
  rw [ofM, (upB_perm _).length_eq, keepM_eq, List.length_take]
  have hm : l[0] ∈ allK (ringM l) (keyN key) := (mem_allK _ _ _).2 ((mem_ringM l _).2 (List.getElem_mem h))
  have := List.length_pos_of_mem hm
  show 0 < min 3 _
  omega
theorem ofM_64 {l : List UInt8} (h : mayN l = true) (key : UInt8) : ∀ x ∈ ofM l key, x.toNat < 64 := fun x hx => mayN_64 h x (ofM_sub hx)
theorem keep_pop {l : List UInt8} (h : mayN l = true) (key : UInt8) (s : Nat) : popN 64 (setN (ofM l key) &&& s) = cntN (ofM l key) s := pop_and _ (ofM_nodup _ _) (ofM_64 h key) s
theorem keep_all {l : List UInt8} (h : mayN l = true) (key : UInt8) : popN 64 (setN (ofM l key)) = (ofM l key).length := pop_set _ (ofM_nodup _ _) (ofM_64 h key)

/-! quorums of one ring -/
def quoL (l : List UInt8) (s : Nat) : Bool := decide (l.length < 2 * cntN l s)
def allL (l : List UInt8) (s : Nat) : Bool := decide (cntN l s = l.length)
theorem quo_meet {l : List UInt8} {s t : Nat} (hs : quoL l s = true) (ht : quoL l t = true) (h : s &&& t = 0) : False := by
  simp only [quoL, decide_eq_true_eq] at hs ht
  have : ∀ l : List UInt8, cntN l s + cntN l t ≤ l.length := by
    intro l
    induction l with
    | nil => simp [cntN]
    | cons n l ih =>
      have hb : ¬ (s.testBit n.toNat = true ∧ t.testBit n.toNat = true) := by
        intro hb
        have h2 := Nat.testBit_and s t n.toNat
        rw [h, hb.1, hb.2] at h2
        simp at h2
      simp only [cntN, List.countP_cons, List.length_cons] at ih ⊢
      split <;> split <;> first | omega | (rename_i a b; exact absurd ⟨a, b⟩ hb)
  have := this l
  omega
theorem cnt_not {l : List UInt8} (h : ∀ n ∈ l, n.toNat < 64) {s : Nat} (hs : s < 18446744073709551616) : cntN l (18446744073709551615 - s) + cntN l s = l.length := by
  induction l with
  | nil => rfl
  | cons n l ih =>
    have ih := ih (fun x hx => h x (List.mem_cons_of_mem _ hx))
    have hn := h n List.mem_cons_self
    have hb : (18446744073709551615 - s).testBit n.toNat = !s.testBit n.toNat := by
      rw [show 18446744073709551615 - s = 2 ^ 64 - (s + 1) by omega, Nat.testBit_two_pow_sub_succ hs, decide_eq_true hn, Bool.true_and]
    simp only [cntN, List.countP_cons, List.length_cons, hb] at ih ⊢
    cases s.testBit n.toNat <;> simp <;> omega
theorem quo_not {l : List UInt8} (h : ∀ n ∈ l, n.toNat < 64) {s : Nat} (hs : s < 18446744073709551616) (hq : quoL l s = true) : quoL l (18446744073709551615 - s) = false := by
  have := cnt_not h hs
  simp only [quoL, decide_eq_true_eq, decide_eq_false_iff_not] at hq ⊢
  omega
theorem quo_more {l : List UInt8} {s t : Nat} (hq : quoL l s = true) : quoL l (s ||| t) = true := by
  have : cntN l s ≤ cntN l (s ||| t) := List.countP_mono_left (fun n _ hn => by rw [Nat.testBit_or, hn, Bool.true_or])
  simp only [quoL, decide_eq_true_eq] at hq ⊢
  omega
theorem all_quo {l : List UInt8} {s : Nat} (hl : 0 < l.length) (h : allL l s = true) : quoL l s = true := by
  simp only [quoL, allL, decide_eq_true_eq] at h ⊢
  omega

/-! configurations -/
def okL (l : List UInt8) : Bool := decide (0 < l.length) && mayN l
def mayC (C : Nat) (o n : List UInt8) : Bool := (ringsN C o n).all okL && (if C % 2 = 1 then decide (othN o n + othN n o = 1) else decide (o.length = 0))
def quoC (C : Nat) (o n : List UInt8) (key : UInt8) (s : Nat) : Bool := mayC C o n && (ringsN C o n).all fun l => quoL (ofM l key) s
def allC (C : Nat) (o n : List UInt8) (key : UInt8) (s : Nat) : Bool := mayC C o n && (ringsN C o n).all fun l => allL (ofM l key) s
theorem mayC_odd {C : Nat} {o n : List UInt8} (hC : C % 2 = 1) : mayC C o n = ((okL o && okL n) && decide (othN o n + othN n o = 1)) := by
  simp [mayC, ringsN, hC]
theorem mayC_even {C : Nat} {o n : List UInt8} (hC : ¬ C % 2 = 1) : mayC C o n = (okL n && decide (o.length = 0)) := by
  simp [mayC, ringsN, hC]
theorem rings_ok {C : Nat} {o n : List UInt8} (h : mayC C o n = true) : ∀ l ∈ ringsN C o n, okL l = true := by
  rw [mayC, Bool.and_eq_true, List.all_eq_true] at h
  exact h.1
theorem okL_may {l : List UInt8} (h : okL l = true) : mayN l = true := by
  rw [okL, Bool.and_eq_true] at h
  exact h.2
theorem okL_pos {l : List UInt8} (h : okL l = true) : 0 < l.length := by
  rw [okL, Bool.and_eq_true] at h
  simpa using h.1
theorem quoC_iff {C : Nat} {o n : List UInt8} {key : UInt8} {s : Nat} : quoC C o n key s = true ↔ mayC C o n = true ∧ ∀ l ∈ ringsN C o n, quoL (ofM l key) s = true := by
  rw [quoC, Bool.and_eq_true, List.all_eq_true]
theorem new_in {α : Type} (C : Nat) (a b : α) : b ∈ ringsN C a b := by
  unfold ringsN
  split <;> simp
theorem quoC_meet {C : Nat} {o n : List UInt8} {key : UInt8} {s t : Nat} (hs : quoC C o n key s = true) (ht : quoC C o n key t = true) (h : s &&& t = 0) : False :=
  quo_meet ((quoC_iff.1 hs).2 n (new_in _ _ _)) ((quoC_iff.1 ht).2 n (new_in _ _ _)) h
theorem quoC_not {C : Nat} {o n : List UInt8} {key : UInt8} {s : Nat} (hs : s < 18446744073709551616) (hq : quoC C o n key s = true) : quoC C o n key (18446744073709551615 - s) = false := by
  have hm := (quoC_iff.1 hq).1
  have h1 := quo_not (ofM_64 (okL_may (rings_ok hm n (new_in _ _ _))) key) hs ((quoC_iff.1 hq).2 n (new_in _ _ _))
  rw [← Bool.not_eq_true]
  intro h
  rw [(quoC_iff.1 h).2 n (new_in _ _ _)] at h1
  cases h1
theorem quoC_more {C : Nat} {o n : List UInt8} {key : UInt8} {s t : Nat} (hq : quoC C o n key s = true) : quoC C o n key (s ||| t) = true :=
  quoC_iff.2 ⟨(quoC_iff.1 hq).1, fun l hl => quo_more ((quoC_iff.1 hq).2 l hl)⟩
theorem allC_quo {C : Nat} {o n : List UInt8} {key : UInt8} {s : Nat} (h : allC C o n key s = true) : quoC C o n key s = true := by
  rw [allC, Bool.and_eq_true, List.all_eq_true] at h
  exact quoC_iff.2 ⟨h.1, fun l hl => all_quo (ofM_pos key (okL_pos (rings_ok h.1 l hl))) (h.2 l hl)⟩

/-! steps -/
/-- with one more, or without it -/
def turnN (l : List UInt8) (x : UInt8) : List UInt8 := if l.contains x then l.filter (fun y => y != x) else (l.filter fun y => decide (y.toNat < x.toNat)) ++ x :: l.filter fun y => decide (x.toNat < y.toNat)
/-- the error, and what comes -/
def stepN (C : Nat) (o n : List UInt8) (x : UInt8) : Int × Nat × List UInt8 × List UInt8 :=
  if !mayC C o n then (1, 0, [], []) else if C % 2 = 1 then (if 9223372036854775808 ≤ C then (7, 0, [], []) else (0, C + 1, [], n))
  else if 64 ≤ x.toNat then (1, 0, [], []) else if (turnN n x).length = 0 then (1, 0, [], []) else if 9223372036854775808 ≤ C then (7, 0, [], []) else (0, C + 1, n, turnN n x)
theorem mem_turnN (l : List UInt8) (x y : UInt8) : y ∈ turnN l x ↔ (y ∈ l ∧ y ≠ x) ∨ (y = x ∧ x ∉ l) := by
  unfold turnN
  split
  · rename_i h
    rw [List.contains_iff_mem] at h
    simp [h]
  · rename_i h
    rw [List.contains_iff_mem] at h
    simp only [List.mem_append, List.mem_filter, List.mem_cons, decide_eq_true_eq]
    constructor
    · rintro (⟨h1, h2⟩ | rfl | ⟨h1, h2⟩)
      · exact .inl ⟨h1, by rintro rfl; omega⟩
      · exact .inr ⟨rfl, h⟩
      · exact .inl ⟨h1, by rintro rfl; omega⟩
    · rintro (⟨h1, h2⟩ | ⟨rfl, h1⟩)
      · have : y.toNat ≠ x.toNat := fun e => h2 (UInt8.toNat_inj.1 e)
        rcases Nat.lt_or_ge y.toNat x.toNat with h3 | h3
        · exact .inl ⟨h1, h3⟩
        · exact .inr (.inr ⟨h1, by omega⟩)
      · exact .inr (.inl rfl)
theorem mayN_filter {l : List UInt8} (h : mayN l = true) (p : UInt8 → Bool) : mayN (l.filter p) = true := by
  rw [mayN_iff] at h ⊢
  exact ⟨fun n hn => h.1 n (List.mem_filter.1 hn).1, h.2.filter p⟩
theorem mayN_turnN {l : List UInt8} {x : UInt8} (h : mayN l = true) (hx : x.toNat < 64) : mayN (turnN l x) = true := by
  unfold turnN
  split
  · exact mayN_filter h _
  · rw [mayN_iff] at h ⊢
    refine ⟨fun n hn => ?_, ?_⟩
    · simp only [List.mem_append, List.mem_filter, List.mem_cons] at hn
      rcases hn with hn | rfl | hn
      · exact h.1 n hn.1
      · exact hx
      · exact h.1 n hn.1
    · rw [List.pairwise_append, List.pairwise_cons]
      refine ⟨h.2.filter _, ⟨fun b hb => by simpa using (List.mem_filter.1 hb).2, h.2.filter _⟩, fun a ha b hb => ?_⟩
      have ha := (List.mem_filter.1 ha).2
      simp only [decide_eq_true_eq] at ha
      rcases List.mem_cons.1 hb with rfl | hb
      · exact ha
      · have hb := (List.mem_filter.1 hb).2
        simp only [decide_eq_true_eq] at hb
        omega
theorem mayN_turnN_out {l : List UInt8} {x : UInt8} (h : mayN l = true) (hx : ¬ x.toNat < 64) : mayN (turnN l x) = false := by
  have hn : x ∉ l := fun hm => hx (mayN_64 h x hm)
  rw [← Bool.not_eq_true]
  intro hm
  exact hx (mayN_64 hm x ((mem_turnN l x x).2 (.inr ⟨rfl, hn⟩)))
theorem othN_turnN {l : List UInt8} (x : UInt8) (h : l.Nodup) (ht : (turnN l x).Nodup) : othN l (turnN l x) + othN (turnN l x) l = 1 := by
  have hone : ∀ {m : List UInt8} (p : UInt8 → Bool), m.Nodup → x ∈ m → (∀ y ∈ m, p y = true ↔ y = x) → m.countP p = 1 := by
    intro m p hm hx hp
    rw [List.countP_eq_length_filter]
    have hq : (m.filter p).Perm [x] := nub_perm (hm.filter p) (by simp) fun y => by
      rw [List.mem_filter, List.mem_singleton]
      constructor
      · rintro ⟨h1, h2⟩
        exact (hp y h1).1 h2
      · rintro rfl
        exact ⟨hx, (hp _ hx).2 rfl⟩
    rw [hq.length_eq]
    rfl
  have hnil : ∀ {m : List UInt8} (p : UInt8 → Bool), (∀ y ∈ m, ¬ p y = true) → m.countP p = 0 := fun p hp => List.countP_eq_zero.2 hp
  by_cases hx : x ∈ l
  · have h1 : othN l (turnN l x) = 1 := hone _ h hx (fun y hy => by
      rw [Bool.not_eq_true', ← Bool.not_eq_true, List.contains_iff_mem, mem_turnN]
      constructor
      · intro hn
        by_cases e : y = x
        · exact e
        · exact absurd (.inl ⟨hy, e⟩) hn
      · rintro rfl
        rintro (⟨_, h2⟩ | ⟨_, h2⟩)
        · exact h2 rfl
        · exact h2 hx)
    have h2 : othN (turnN l x) l = 0 := hnil _ (fun y hy => by
      rw [Bool.not_eq_true', ← Bool.not_eq_true, List.contains_iff_mem]
      intro hn
      rcases (mem_turnN l x y).1 hy with h2 | ⟨rfl, h2⟩
      · exact hn h2.1
      · exact h2 hx)
    omega
  · have h1 : othN l (turnN l x) = 0 := hnil _ (fun y hy => by
      rw [Bool.not_eq_true', ← Bool.not_eq_true, List.contains_iff_mem, mem_turnN]
      intro hn
      exact hn (.inl ⟨hy, fun e => hx (e ▸ hy)⟩))
    have h2 : othN (turnN l x) l = 1 := hone _ ht ((mem_turnN l x x).2 (.inr ⟨rfl, hx⟩)) (fun y hy => by
      rw [Bool.not_eq_true', ← Bool.not_eq_true, List.contains_iff_mem]
      constructor
      · intro hn
        rcases (mem_turnN l x y).1 hy with h2 | ⟨e, _⟩
        · exact absurd h2.1 hn
        · exact e
      · rintro rfl
        exact hx)
    omega
/-- what comes of a step may be, but where there is an error -/
theorem may_step {C : Nat} {o n : List UInt8} {x : UInt8} (h : mayC C o n = true) (hC : ¬ C % 2 = 1) : mayC (C + 1) n (turnN n x) = (decide (x.toNat < 64) && decide (0 < (turnN n x).length)) := by
  have hn := h
  rw [mayC_even hC, Bool.and_eq_true] at hn
  rw [mayC_odd (by omega), hn.1, Bool.true_and, okL]
  by_cases hx : x.toNat < 64
  · have ht := mayN_turnN (okL_may hn.1) hx
    rw [ht, othN_turnN x (mayN_nodup (okL_may hn.1)) (mayN_nodup ht)]
    simp [hx]
  · rw [mayN_turnN_out (okL_may hn.1) hx]
    simp [hx]
theorem may_back {C : Nat} {o n : List UInt8} (h : mayC C o n = true) {D : Nat} (hD : ¬ D % 2 = 1) : mayC D [] n = true := by
  rw [mayC_even hD, rings_ok h n (new_in _ _ _)]
  rfl
theorem stepN_may {C : Nat} {o n : List UInt8} {x : UInt8} (h0 : (stepN C o n x).1 = 0) : mayC (stepN C o n x).2.1 (stepN C o n x).2.2.1 (stepN C o n x).2.2.2 = true := by
  unfold stepN at h0 ⊢
  cases hm : mayC C o n with
  | false => rw [hm] at h0; simp at h0
  | true =>
    rw [hm] at h0
    simp only [Bool.not_true, Bool.false_eq_true, if_false] at h0 ⊢
    by_cases hC : C % 2 = 1
    · rw [if_pos hC] at h0 ⊢
      split at h0
      · simp at h0
      · rw [if_neg (by assumption)]
        exact may_back hm (D := C + 1) (by omega)
    · rw [if_neg hC] at h0 ⊢
      split at h0
      · simp at h0
      · rename_i hx
        rw [if_neg hx]
        split at h0
        · simp at h0
        · rename_i hl
          rw [if_neg hl]
          split at h0
          · simp at h0
          · rw [if_neg (by assumption)]
            show mayC (C + 1) n (turnN n x) = true
            rw [may_step hm hC]
            simp
            omega
/-- a quorum of one, and one of its step, have a node in common -/
theorem step_meet {C : Nat} {o n : List UInt8} {x key : UInt8} {s t : Nat} (h0 : (stepN C o n x).1 = 0) (hs : quoC C o n key s = true)
    (ht : quoC (stepN C o n x).2.1 (stepN C o n x).2.2.1 (stepN C o n x).2.2.2 key t = true) (h : s &&& t = 0) : False := by
  have hn := (quoC_iff.1 hs).2 n (new_in _ _ _)
  refine quo_meet hn ((quoC_iff.1 ht).2 n ?_) h
  unfold stepN at h0 ⊢
  rw [(quoC_iff.1 hs).1] at h0 ⊢
  simp only [Bool.not_true, Bool.false_eq_true, if_false] at h0 ⊢
  by_cases hC : C % 2 = 1
  · rw [if_pos hC] at h0 ⊢
    split at h0
    · simp at h0
    · rw [if_neg (by assumption)]
      exact new_in _ _ _
  · rw [if_neg hC] at h0 ⊢
    split at h0
    · simp at h0
    · rename_i hx
      rw [if_neg hx]
      split at h0
      · simp at h0
      · rename_i hl
        rw [if_neg hl]
        split at h0
        · simp at h0
        · rw [if_neg (by assumption)]
          show n ∈ ringsN (C + 1) n (turnN n x)
          rw [ringsN, if_pos (by omega)]
          exact List.mem_cons_self
end Go.Proofs.YtnkjdijbfnmnhaaGreat

/-
  Contracts of conf's May and of the reference's.
-/
namespace Go.Proofs.YtnkjdijbfnmnhaaGreat
open Go.RowKit

theorem rings_map {α β : Type} (f : α → β) (C : Nat) (a b : α) : ringsN C (f a) (f b) = (ringsN C a b).map f := by
  unfold ringsN
  split <;> rfl
theorem rings_two {α : Type} {C : Nat} {a b z : α} (h : z ∈ ringsN C a b) : z = a ∨ z = b := by
  unfold ringsN at h
  split at h
  · simpa using h
  · right; simpa using h
theorem rings_len {α : Type} (C : Nat) (a b : α) : (ringsN C a b).length ≤ 2 := by
  unfold ringsN
  split <;> simp
theorem NdM.ok.len {w : World} {B c : Nat} {A : Option Addr} {l : List UInt8} (h : NdM.ok w B ⟨A, c, l⟩) : l.length ≤ 100 := h.1
theorem mayC_bad {C : Nat} {x y z : NdM} (hz : z ∈ ringsN C x y) (h : okL z.l = false) : mayC C x.l y.l = false := by
  rw [← Bool.not_eq_true]
  intro hm
  have := rings_ok hm z.l (by rw [rings_map NdM.l]; exact List.mem_map.2 ⟨z, hz, rfl⟩)
  rw [h] at this
  cases this
theorem mayC_good {C : Nat} {x y : NdM} (h : ∀ z ∈ ringsN C x y, okL z.l = true) : mayC C x.l y.l = if C % 2 = 1 then decide (othN x.l y.l + othN y.l x.l = 1) else decide (x.l.length = 0) := by
  rw [mayC, show (ringsN C x.l y.l).all okL = true by
    rw [rings_map NdM.l, List.all_map, List.all_eq_true]
    exact h, Bool.true_and]
theorem pop_oth {l m : List UInt8} (hl : okL l = true) (hm : okL m = true) : popN 64 (setN l ^^^ setN m) = othN l m + othN m l :=
  pop_xor l m (mayN_nodup (okL_may hl)) (mayN_64 (okL_may hl)) (mayN_nodup (okL_may hm)) (mayN_64 (okL_may hm))

set_option maxRecDepth 100000 in
set_option maxHeartbeats 800000 in
theorem cMay_any (C : Nat) (x y : NdM) (B : Nat) (w : World) (hx : NdM.ok w B x) (hy : NdM.ok w B y) (hB : B ≤ w.heap.size) :
    Calls Tryz.prog 89 #[cfV C x y] w fun e w' => e = .returned (.bool (mayC C x.l y.l)) ∧ Below w.heap.size w w' := by
  have HR := hide_ (fun u => rings_any C x y u)
  have HT := hide_ (fun u => Between_any C x y u)
  have HBAD := hide_ (fun z hz h => mayC_bad (C := C) (x := x) (y := y) (z := z) hz h)
  have HGOOD := hide_ (fun h => mayC_good (C := C) (x := x) (y := y) h)
  have HALL := hide_ (fun (u : World) (hu : Below w.heap.size w u) z (hz : z ∈ ringsN C x y) => show NdM.ok u w.heap.size z from by
    rcases rings_two hz with rfl | rfl
    · exact (hx.more hB).below hu
    · exact (hy.more hB).below hu)
  have HOX := hide_ (fun (u : World) (hu : Below w.heap.size w u) => (hx.more hB).below hu)
  have HOY := hide_ (fun (u : World) (hu : Below w.heap.size w u) => (hy.more hB).below hu)
  have HXR := hide_ (show C % 2 = 1 → x ∈ ringsN C x y from fun h => by rw [ringsN, if_pos h]; simp)
  have HYR := hide_ (show y ∈ ringsN C x y from new_in _ _ _)
  have hrl := rings_len C x y
  obtain ⟨rs, hrs⟩ : ∃ rs, ringsN C x y = rs := ⟨_, rfl⟩
  obtain ⟨r, hr⟩ : ∃ r, mayC C x.l y.l = r := ⟨_, rfl⟩
  rw [hrs] at hrl
  simp only [hrs, hr] at HR HBAD HGOOD HALL HXR HYR ⊢
  clear hr hrs hx hy
  obtain ⟨A1, c1, l1⟩ := x
  obtain ⟨A2, c2, l2⟩ := y
  simp only [cfV, NdM.v] at HT HGOOD HOX HOY HR ⊢
  have HB0 := hide_ ((Below.refl w.heap.size w).alloc (Nat.le_refl _) (.cells #[.int .u64 C, .slice A1 l1.length c1, .slice A2 l2.length c2] 52))
  have HX0 := hide_ (BoxAt.new w #[.int .u64 C, .slice A1 l1.length c1, .slice A2 l2.length c2] 52)
  obtain ⟨W0, hW0⟩ : ∃ W0, w.alloc (.cells #[.int .u64 C, .slice A1 l1.length c1, .slice A2 l2.length c2] 52) = W0 := ⟨_, rfl⟩
  rw [hW0] at HB0 HX0
  have HW0 := hide_ hW0
  have hs0 : w.heap.size < W0.heap.size := HX0.out.lt
  clear hW0
  go_enter Tryz.func89, Tryz.ntmps89
  go_upto_region 1 with fail
  rw [HW0.out]
  have c0 := HX0.out.cell 0
  have c1' := HX0.out.cell 1
  have c2' := HX0.out.cell 2
  simp at c0 c1' c2'
  go_wp2_with fail
  refine (HR.out _).mono ?_
  rintro e w1 ⟨g, o, k, rfl, hk, hg, hg1, hc, hb1⟩
  have HB1 := hide_ (HB0.out.trans (hb1.mono HB0.out.size))
  have HX1 := hide_ (HX0.out.below hb1)
  have HC := hide_ hc
  have HK := hide_ hk
  have hk2 : k ≤ 2 := by omega
  clear hrl
  have hs1 : w.heap.size < w1.heap.size := HX1.out.lt
  clear hb1 c0 c1' c2' hc hk
  go_wp2_with fail
  go_loop [8] (fun i => ∃ m : Nat, m ≤ k ∧ i = .int .i64 m ∧ Hid (∀ j z, j < m → rs[j]? = some z → okL z.l = true)) (fun i => k - (intOf i).toNat)
  case atStart => exact ⟨0, by omega, rfl, hide_ (fun j z hj => by omega)⟩
  case round =>
    obtain ⟨m, hm, rfl, HM⟩ := hrel
    by_cases hlt : m < k
    · obtain ⟨z, hz⟩ : ∃ z, rs[m]? = some z := ⟨_, List.getElem?_eq_getElem (by rw [HK.out]; exact hlt)⟩
      have hcz := HC.out m z hz
      have HZ := hide_ (List.mem_of_getElem? hz)
      have HZO := hide_ (HALL.out w1 HB1.out z HZ.out)
      have HB := hide_ (HBAD.out z HZ.out)
      have HN := hide_ (fun (h : okL z.l = true) => show ∀ j z, j < m + 1 → rs[j]? = some z → okL z.l = true from fun j z' hj hz' => by
        by_cases hjm : j < m
        · exact HM.out j z' hjm hz'
        · obtain rfl : j = m := by omega
          rw [hz] at hz'
          injection hz' with hz'
          rw [← hz']
          exact h)
      clear hz
      obtain ⟨zA, zc, zl⟩ := z
      simp only at hcz HZO HB HN
      by_cases hz0 : zl.length = 0
      · have HF := hide_ (HB.out (by rw [okL, hz0]; rfl))
        go_wp2
        go_ret
        exact ⟨ret_bool9 HF.out.symm, HB1.out⟩
      · have HMY := hide_ (may9_any zl w.heap.size zA zl.length zc w1 rfl (by have := HZO.out.len; unfold maxLen; omega) HZO.out.2)
        have hok : okL zl = mayN zl := by rw [okL, show decide (0 < zl.length) = true from decide_eq_true (by omega), Bool.true_and]
        rw [hok] at HB HN
        obtain ⟨q, hq⟩ : ∃ q, mayN zl = q := ⟨_, rfl⟩
        rw [hq] at HMY HB HN
        clear hok hq
        have hd : ((zl.length : Int) == 0) = false := by rw [beq_eq_false_iff_ne]; omega
        cases q with
        | false =>
          have HF := hide_ (HB.out rfl)
          go_wp2_with fail
          refine HMY.out.mono ?_
          rintro e w2 ⟨rfl, rfl⟩
          go_wp2
          go_ret
          exact ⟨ret_bool9 HF.out.symm, HB1.out⟩
        | true =>
          have HN2 := hide_ (HN.out rfl)
          go_wp2_with fail
          refine HMY.out.mono ?_
          rintro e w2 ⟨rfl, rfl⟩
          go_wp2
          go_round
          case rel => exact ⟨m + 1, by omega, by go_num, HN2⟩
          case measure => simp [intOf]; omega
    · obtain rfl : k = m := by omega
      have HG := hide_ (HGOOD.out (fun z hz => by
        obtain ⟨j, hj, rfl⟩ := List.getElem_of_mem hz
        rw [HK.out] at hj
        exact HM.out j _ hj (List.getElem?_eq_getElem _)))
      have HXO := hide_ (fun (hC : C % 2 = 1) => show okL l1 = true from by
        obtain ⟨j, hj, e⟩ := List.getElem_of_mem (HXR.out hC)
        have := HM.out j _ (by rw [← HK.out]; exact hj) (List.getElem?_eq_getElem hj)
        rw [e] at this
        exact this)
      have HYO := hide_ (show okL l2 = true from by
        obtain ⟨j, hj, e⟩ := List.getElem_of_mem HYR.out
        have := HM.out j _ (by rw [← HK.out]; exact hj) (List.getElem?_eq_getElem hj)
        rw [e] at this
        exact this)
      clear HM
      have c0 := HX1.out.cell 0
      have c1' := HX1.out.cell 1
      have c2' := HX1.out.cell 2
      simp at c0 c1' c2'
      have HTT := HT.out w1
      by_cases hC : C % 2 = 1
      · have hd : decide (C % 2 = 1) = true := by simp [hC]
        rw [hd] at HTT
        have HTT := hide_ HTT
        rw [if_pos hC] at HG
        have HXK := hide_ (HXO.out hC)
        clear hC hd HXO
        go_wp2_with fail
        refine HTT.out.mono ?_
        rintro e w3 ⟨rfl, hb3⟩
        have HB3 := hide_ (HB1.out.trans (hb3.mono HB1.out.size))
        have HX3 := hide_ (HX1.out.below hb3)
        have hs3 : w.heap.size < w3.heap.size := HX3.out.lt
        clear hb3 c0 c1' c2'
        have c0 := HX3.out.cell 0
        have c1' := HX3.out.cell 1
        have c2' := HX3.out.cell 2
        simp at c0 c1' c2'
        have HPO := hide_ (pop_oth HXK.out HYO.out)
        have HS1 := hide_ (fun (u : World) (hu : ∃ q, u = w3.drewN q) => set_any l1 w.heap.size A1 l1.length c1 u rfl (by have := (HOX.out _ HB3.out).len; unfold maxLen; omega) (by obtain ⟨q, rfl⟩ := hu; exact (HOX.out _ HB3.out).2))
        have HS2 := hide_ (fun (u : World) (hu : ∃ q, u = w3.drewN q) => set_any l2 w.heap.size A2 l2.length c2 u rfl (by have := (HOY.out _ HB3.out).len; unfold maxLen; omega) (by obtain ⟨q, rfl⟩ := hu; exact (HOY.out _ HB3.out).2))
        have hxr := u64_xor_nat (setN l1) (setN l2) (setN_lt _) (setN_lt _)
        have HP := hide_ (fun u => ones_any (setN l1 ^^^ setN l2) u (Nat.xor_lt_two_pow (n := 64) (setN_lt l1) (setN_lt l2)))
        rw [HPO.out] at HP
        go_upto_region 8 with fail
        go_quiet (first | (go_at_call_of 164 l1; refine Calls.quiet_of_same (HS1.out _ ⟨_, rfl⟩)) | (go_at_call_of 164 l2; refine Calls.quiet_of_same (HS2.out _ ⟨_, rfl⟩)) | (go_at_call 163; refine Calls.quiet_of_same (HP.out _)))
        go_wp2
        go_ret
        exact ⟨ret_bool9 (by rw [HG.out, Bool.eq_iff_iff]; simp; omega), dN9 HB3.out _⟩
      · have hd : decide (C % 2 = 1) = false := by simp; omega
        rw [hd] at HTT
        have HTT := hide_ HTT
        rw [if_neg hC] at HG
        clear hC hd HXO
        go_wp2_with fail
        refine HTT.out.mono ?_
        rintro e w3 ⟨rfl, hb3⟩
        have HB3 := hide_ (HB1.out.trans (hb3.mono HB1.out.size))
        have HX3 := hide_ (HX1.out.below hb3)
        have hs3 : w.heap.size < w3.heap.size := HX3.out.lt
        clear hb3 c0 c1' c2'
        have c0 := HX3.out.cell 0
        have c1' := HX3.out.cell 1
        have c2' := HX3.out.cell 2
        simp at c0 c1' c2'
        go_wp2
        go_ret
        exact ⟨ret_bool9 (by rw [HG.out, Bool.eq_iff_iff]; simp), HB3.out⟩
end Go.Proofs.YtnkjdijbfnmnhaaGreat

/-
  The contract of the reference's May at configurations.
-/
namespace Go.Proofs.YtnkjdijbfnmnhaaGreat
open Go.RowKit

theorem mayC_new0 {C : Nat} {o n : List UInt8} (h : okL n = false) : mayC C o n = false := by
  rw [← Bool.not_eq_true]
  intro hm
  rw [rings_ok hm n (new_in _ _ _)] at h
  cases h
theorem okL_of {l : List UInt8} (h : ¬ l.length = 0) : okL l = mayN l := by rw [okL, show decide (0 < l.length) = true from decide_eq_true (by omega), Bool.true_and]
theorem okL_zero {l : List UInt8} (h : l.length = 0) : okL l = false := by rw [okL, h]; rfl
theorem drew_below {w w' : World} (h : ∃ q, w' = w.drewN q) (B : Nat) : Below B w w' := by
  obtain ⟨q, rfl⟩ := h
  exact dN9 (Below.refl _ _) q

set_option maxRecDepth 100000 in
set_option maxHeartbeats 800000 in
theorem refMay10_any (C : Nat) (x y : NdM) (B : Nat) (w : World) (hx : NdM.ok w B x) (hy : NdM.ok w B y) (hB : B ≤ w.heap.size) :
    Calls Tryz.prog 64 #[cfV C x y] w fun e w' => e = .returned (.bool (mayC C x.l y.l)) ∧ Below w.heap.size w w' := by
  have HOX := hide_ (fun (u : World) (hu : Below w.heap.size w u) => (hx.more hB).below hu)
  have HOY := hide_ (fun (u : World) (hu : Below w.heap.size w u) => (hy.more hB).below hu)
  have H0 := hide_ (fun h => mayC_new0 (C := C) (o := x.l) (n := y.l) h)
  have H1 := hide_ (fun h => mayC_odd (C := C) (o := x.l) (n := y.l) h)
  have H2 := hide_ (fun h => mayC_even (C := C) (o := x.l) (n := y.l) h)
  obtain ⟨r, hr⟩ : ∃ r, mayC C x.l y.l = r := ⟨_, rfl⟩
  have hlx := hx.1
  have hly := hy.1
  simp only [hr] at H0 H1 H2 ⊢
  clear hr hx hy
  obtain ⟨A1, c1, l1⟩ := x
  obtain ⟨A2, c2, l2⟩ := y
  simp only [cfV, NdM.v] at H0 H1 H2 HOX HOY hlx hly ⊢
  have HB0 := hide_ ((Below.refl w.heap.size w).alloc (Nat.le_refl _) (.cells #[.int .u64 C, .slice A1 l1.length c1, .slice A2 l2.length c2] 52))
  have HX0 := hide_ (BoxAt.new w #[.int .u64 C, .slice A1 l1.length c1, .slice A2 l2.length c2] 52)
  obtain ⟨W0, hW0⟩ : ∃ W0, w.alloc (.cells #[.int .u64 C, .slice A1 l1.length c1, .slice A2 l2.length c2] 52) = W0 := ⟨_, rfl⟩
  rw [hW0] at HB0 HX0
  have HW0 := hide_ hW0
  have hs0 : w.heap.size < W0.heap.size := HX0.out.lt
  clear hW0
  go_enter Tryz.func64, Tryz.ntmps64
  go_upto_region 1 with fail
  rw [HW0.out]
  have c0 := HX0.out.cell 0
  have c1' := HX0.out.cell 1
  have c2' := HX0.out.cell 2
  simp at c0 c1' c2'
  by_cases hz : l2.length = 0
  · have HF := hide_ (H0.out (okL_zero hz))
    go_wp2
    go_ret
    exact ⟨ret_bool9 HF.out.symm, HB0.out⟩
  · have hd : ((l2.length : Int) == 0) = false := by rw [beq_eq_false_iff_ne]; omega
    have HM := hide_ (refMay9q_any l2 w.heap.size A2 l2.length c2 W0 rfl (by unfold maxLen; omega) (HOY.out W0 HB0.out).2)
    have hok := okL_of hz
    rw [hok] at H0 H1 H2
    obtain ⟨q, hq⟩ : ∃ q, mayN l2 = q := ⟨_, rfl⟩
    rw [hq] at HM H0 H1 H2
    clear hok hq
    cases q with
    | false =>
      have HF := hide_ (H0.out rfl)
      go_wp2_with fail
      refine HM.out.mono ?_
      rintro e w2 ⟨rfl, hw2⟩
      have HB2 := hide_ (HB0.out.trans ((drew_below hw2 _).mono HB0.out.size))
      clear hw2
      go_wp2
      go_ret
      exact ⟨ret_bool9 HF.out.symm, HB2.out⟩
    | true =>
      go_wp2_with fail
      refine HM.out.mono ?_
      rintro e w2 ⟨rfl, hw2⟩
      have HB2 := hide_ (HB0.out.trans ((drew_below hw2 _).mono HB0.out.size))
      have HX2 := hide_ (HX0.out.below (drew_below hw2 _))
      have hs2 : w.heap.size < w2.heap.size := HX2.out.lt
      clear hw2 c0 c1' c2'
      have c0 := HX2.out.cell 0
      have c1' := HX2.out.cell 1
      have c2' := HX2.out.cell 2
      simp at c0 c1' c2'
      by_cases hC : C % 2 = 1
      · have HR := hide_ (H1.out hC)
        have hce : (C : Int) % 2 = 1 := by omega
        clear hC
        by_cases hz1 : l1.length = 0
        · have hd1 : decide ((0 : Int) < (l1.length : Int)) = false := by simp [hz1]
          have hd1' : decide (0 < l1.length) = false := by simp [hz1]
          rw [okL_zero hz1] at HR
          go_upto_region 5 with fail
          go_quiet (fail)
          go_wp2
          go_ret
          exact ⟨ret_bool9 HR.out.symm, dN9 HB2.out _⟩
        · have hd1 : decide ((0 : Int) < (l1.length : Int)) = true := by rw [decide_eq_true_eq]; omega
          have hd1' : decide (0 < l1.length) = true := by rw [decide_eq_true_eq]; omega
          have HM1 := hide_ (fun (u : World) (hu : ∃ q, u = w2.drewN q) => refMay9q_any l1 w.heap.size A1 l1.length c1 u rfl (by unfold maxLen; omega) (by obtain ⟨q, rfl⟩ := hu; exact (HOX.out _ HB2.out).2))
          have HQ1 := hide_ (fun (u : World) (hu : ∃ q, u = w2.drewN q) => others_any ⟨A1, c1, l1⟩ ⟨A2, c2, l2⟩ w.heap.size u (by obtain ⟨q, rfl⟩ := hu; exact HOX.out _ (dN9 HB2.out q)) (by obtain ⟨q, rfl⟩ := hu; exact HOY.out _ (dN9 HB2.out q)))
          have HQ2 := hide_ (fun (u : World) (hu : ∃ q, u = w2.drewN q) => others_any ⟨A2, c2, l2⟩ ⟨A1, c1, l1⟩ w.heap.size u (by obtain ⟨q, rfl⟩ := hu; exact HOY.out _ (dN9 HB2.out q)) (by obtain ⟨q, rfl⟩ := hu; exact HOX.out _ (dN9 HB2.out q)))
          have ho1 := othN_le l1 l2
          have ho2 := othN_le l2 l1
          simp only [NdM.v] at HQ1 HQ2
          rw [okL_of hz1] at HR
          obtain ⟨o1, ho1'⟩ : ∃ o1, othN l1 l2 = o1 := ⟨_, rfl⟩
          obtain ⟨o2, ho2'⟩ : ∃ o2, othN l2 l1 = o2 := ⟨_, rfl⟩
          obtain ⟨q, hq⟩ : ∃ q, mayN l1 = q := ⟨_, rfl⟩
          rw [hq] at HM1 HR
          rw [ho1'] at HQ1 HR ho1
          rw [ho2'] at HQ2 HR ho2
          clear hq ho1' ho2'
          cases q with
          | false =>
            go_upto_region 5 with fail
            go_quiet (first | (go_at_call_of 130 l1; refine Calls.quiet_of (HM1.out _ ⟨_, rfl⟩)))
            go_wp2
            go_ret
            exact ⟨ret_bool9 HR.out.symm, dN9 HB2.out _⟩
          | true =>
            go_upto_region 5 with fail
            go_quiet (first | (go_at_call_of 130 l1; refine Calls.quiet_of (HM1.out _ ⟨_, rfl⟩)) | (go_at_call 131; first | with_reducible refine Calls.quiet_of_same (HQ1.out _ ⟨_, rfl⟩) | with_reducible refine Calls.quiet_of_same (HQ2.out _ ⟨_, rfl⟩)))
            go_wp2
            go_ret
            exact ⟨ret_bool9 (by rw [HR.out, Bool.eq_iff_iff]; simp; omega), dN9 HB2.out _⟩
      · have HR := hide_ (H2.out hC)
        have hce : (C : Int) % 2 = 0 := by omega
        clear hC
        go_wp2
        go_ret
        exact ⟨ret_bool9 (by rw [HR.out, Bool.eq_iff_iff]; simp), HB2.out⟩
end Go.Proofs.YtnkjdijbfnmnhaaGreat
