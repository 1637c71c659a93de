/-
  Texts of this claim put together: Conf1.
-/
import Derived.Test.YtecbpmnolgkllaaGreatJ23
import Derived.Test.YtecbpmnolgkllaaGreatJ04
import Derived.WalkSpells
import Derived.Laws.Bits128
/-
  Contracts of counting bits, of conf's set, Between, listsOf and rings, and of the reference's Has, others, bit and count.
-/
namespace Go.Proofs.YtecbpmnolgkllaaGreat
open Go.RowKit

theorem u64_and_lit (a b : Nat) (c : Int) (hc : c = (b : Int)) (ha : a < 18446744073709551616) (hb : b < 18446744073709551616) : bits .and .u64 (a : Int) c = ((a &&& b : Nat) : Int) := by
  rw [hc, u64_and_nat a b ha hb]
theorem u64_and_div (a k b : Nat) (d c : Int) (hd : d = (k : Int)) (hc : c = (b : Int)) (ha : a < 18446744073709551616) (hb : b < 18446744073709551616) : bits .and .u64 ((a : Int) / d) c = ((a / k &&& b : Nat) : Int) := by
  rw [hd, ← Int.natCast_ediv]
  exact u64_and_lit _ _ _ hc (Nat.lt_of_le_of_lt (Nat.div_le_self _ _) ha) hb

theorem add64 (a b : Nat) (h : a + b < 18446744073709551616) : IntKind.u64.wrap ((a : Int) + (b : Int)) = ((a + b : Nat) : Int) := by
  rw [IntKind.wrap_u64]
  omega
theorem addDiv64 (a k : Nat) (d : Int) (hd : d = (k : Int)) (h : a + a / k < 18446744073709551616) : IntKind.u64.wrap ((a : Int) + (a : Int) / d) = ((a + a / k : Nat) : Int) := by
  rw [hd, ← Int.natCast_ediv]
  exact add64 _ _ h
theorem ones_facts (x : Nat) (hx : x < 18446744073709551616) : ∃ y z v v1 v2 v3 : Nat,
    IntKind.u64.wrap (bits .and .u64 ((x : Int) / 2) 6148914691236517205 + bits .and .u64 (x : Int) 6148914691236517205) = (y : Int) ∧
    IntKind.u64.wrap (bits .and .u64 ((y : Int) / 4) 3689348814741910323 + bits .and .u64 (y : Int) 3689348814741910323) = (z : Int) ∧
    bits .and .u64 (IntKind.u64.wrap ((z : Int) / 16 + (z : Int))) 1085102592571150095 = (v : Int) ∧
    IntKind.u64.wrap ((v : Int) + (v : Int) / 256) = (v1 : Int) ∧ IntKind.u64.wrap ((v1 : Int) + (v1 : Int) / 65536) = (v2 : Int) ∧ IntKind.u64.wrap ((v2 : Int) + (v2 : Int) / 4294967296) = (v3 : Int) ∧
    v3 ≤ 4000000000000000000 ∧ v3 % 128 = popN 64 x := by
  have hA := onesA8_le x
  have hB := onesAB8_le x
  obtain ⟨v, hv, b1, b2, b3, b4, b5⟩ := ones_all x
  refine ⟨onesA 8 x, onesB 8 (onesA 8 x), v, v + v / 256, (v + v / 256) + (v + v / 256) / 65536, _, ?_, ?_, ?_, addDiv64 v 256 _ rfl (by omega), addDiv64 _ 65536 _ rfl (by omega), addDiv64 _ 4294967296 _ rfl (by omega), b4, b5⟩
  · rw [u64_and_div x 2 6148914691236517205 2 6148914691236517205 rfl rfl hx (by omega), u64_and_lit x 6148914691236517205 6148914691236517205 rfl hx (by omega), add64 _ _ (by rw [onesA8]; omega), onesA8]
  · rw [u64_and_div (onesA 8 x) 4 3689348814741910323 4 3689348814741910323 rfl rfl (by omega) (by omega), u64_and_lit (onesA 8 x) 3689348814741910323 3689348814741910323 rfl (by omega) (by omega), add64 _ _ (by rw [onesB8]; omega), onesB8]
  · have e : IntKind.u64.wrap (((onesB 8 (onesA 8 x) : Nat) : Int) / 16 + ((onesB 8 (onesA 8 x) : Nat) : Int)) = ((onesB 8 (onesA 8 x) / 16 + onesB 8 (onesA 8 x) : Nat) : Int) := by
      rw [IntKind.wrap_u64]
      omega
    rw [e, u64_and_lit _ 1085102592571150095 1085102592571150095 rfl (by omega) (by omega), onesC8, hv]

set_option maxRecDepth 100000 in
theorem ones_any (x : Nat) (w : World) (hx : x < 18446744073709551616) : Calls Tryz.prog 110 #[.int .u64 x] w fun e w' => e = .returned (.int .i64 (popN 64 x : Nat)) ∧ w' = w := by
  obtain ⟨y, z, v, v1, v2, v3, h1, h2, h3, h4, h5, h6, h7, h8⟩ := ones_facts x hx
  go_enter Tryz.func110, Tryz.ntmps110
  have h9 : bits .and .i64 (v3 : Int) 127 = ((popN 64 x : Nat) : Int) := by
    rw [i64_and127, ← h8]
    omega
  clear h8
  go_wp2
  go_ret
  exact ⟨rfl, rfl⟩
theorem shl_bit (n : UInt8) : IntKind.u64.wrap ((2 : Int) ^ min n.toNat 64) = ((bitN n : Nat) : Int) := by
  rw [IntKind.wrap_u64, bitN]
  have e : ((2 : Int) ^ min n.toNat 64) = ((2 ^ min n.toNat 64 : Nat) : Int) := by simp
  rw [e, show (18446744073709551616 : Int) = ((18446744073709551616 : Nat) : Int) from rfl, ← Int.natCast_emod]
  congr 1
  rcases Nat.lt_or_ge n.toNat 64 with h | h
  · rw [Nat.min_eq_left (by omega)]
  · rw [Nat.min_eq_right h, show n.toNat = 64 + (n.toNat - 64) by omega, Nat.pow_add, show (18446744073709551616 : Nat) = 2 ^ 64 from rfl, Nat.mul_mod_right, Nat.mod_self]
theorem val_u64c {a b : Int} (h : a = b) : Value.int .u64 a = .int .u64 b := by rw [h]

set_option maxRecDepth 100000 in
theorem set_any (l : List UInt8) (B : Nat) (A : Option Addr) (n c : Nat) (w : World) (hn : l.length = n) (hm : n ≤ maxLen) (h : Sees w B A (bv l)) :
    Calls Tryz.prog 111 #[.slice A n c] w fun e w' => e = .returned (.int .u64 (setN l : Nat)) ∧ w' = w := by
  unfold maxLen at hm
  subst hn
  have HST := hide_ (fun k (hk : k < l.length) => setN_take l k hk)
  have HFIN := hide_ (show setN (l.take l.length) = setN l by rw [List.take_length])
  go_enter Tryz.func111, Tryz.ntmps111
  go_wp2
  go_loop [3, 8] (fun r i => ∃ k : Nat, k ≤ l.length ∧ i = .int .i64 k ∧ r = .int .u64 (setN (l.take k) : Nat)) (fun _ i => l.length - (intOf i).toNat)
  case atStart => exact ⟨0, by omega, rfl, rfl⟩
  case round =>
    obtain ⟨k, hk, rfl, rfl⟩ := hrel
    by_cases hlt : k < l.length
    · obtain ⟨b, o, rfl, hbB, hck⟩ := h.u8 hlt
      have hbt := l[k].toNat_lt
      have hst := HST.out k hlt
      have hlt2 := setN_lt (l.take k)
      have HE := hide_ (show bits .or .u64 ((setN (l.take k) : Nat) : Int) ((bitN l[k] : Nat) : Int) = ((setN (l.take (k + 1)) : Nat) : Int) by
        rw [u64_or_nat _ _ hlt2 (bitN_lt _), hst])
      clear hst hlt2
      have hsb := shl_bit l[k]
      go_wp2
      go_round
      case rel => exact ⟨k + 1, by omega, by go_num, val_u64c HE.out⟩
      case measure => simp [intOf]; omega
    · obtain rfl : k = l.length := by omega
      rw [HFIN.out]
      go_wp2
      go_ret
      exact ⟨rfl, rfl⟩

/-! configurations -/
/-- a row of nodes in memory -/
structure NdM where
  A : Option Addr
  c : Nat
  l : List UInt8
def NdM.v (x : NdM) : Value := .slice x.A x.l.length x.c
def NdM.ok (w : World) (B : Nat) (x : NdM) : Prop := x.l.length ≤ 100 ∧ Sees w B x.A (bv x.l)
theorem NdM.ok.below {w w' : World} {B : Nat} {x : NdM} (h : NdM.ok w B x) (hb : Below B w w') : NdM.ok w' B x := ⟨h.1, h.2.below hb⟩
theorem NdM.ok.more {w : World} {B B' : Nat} {x : NdM} (h : NdM.ok w B x) (hb : B ≤ B') : NdM.ok w B' x := ⟨h.1, h.2.more hb⟩
def cfV (C : Nat) (x y : NdM) : Value := .agg #[.int .u64 C, x.v, y.v]
/-- on whose rings keepers are -/
def ringsN {α : Type} (C : Nat) (a b : α) : List α := if C % 2 = 1 then [a, b] else [b]

set_option maxRecDepth 100000 in
theorem Between_any (C : Nat) (x y : NdM) (w : World) :
    Calls Tryz.prog 109 #[cfV C x y] w fun e w' => e = .returned (.bool (decide (C % 2 = 1))) ∧ Below w.heap.size w w' := by
  obtain ⟨A1, c1, l1⟩ := x
  obtain ⟨A2, c2, l2⟩ := y
  simp only [cfV, NdM.v]
  have HB := hide_ ((Below.refl w.heap.size w).alloc (Nat.le_refl _) (.cells #[.int .u64 C, .slice A1 l1.length c1, .slice A2 l2.length c2] 52))
  go_enter Tryz.func109, Tryz.ntmps109
  go_wp2
  go_ret
  exact ⟨ret_bool9 (by rw [Bool.eq_iff_iff]; simp; omega), HB.out⟩

set_option maxRecDepth 100000 in
theorem listsOf_any (C : Nat) (x y : NdM) (w : World) :
    Calls Tryz.prog 89 #[cfV C x y] w fun e w' => e = .returned (.agg #[x.v, y.v]) ∧ Below w.heap.size w w' := by
  obtain ⟨A1, c1, l1⟩ := x
  obtain ⟨A2, c2, l2⟩ := y
  simp only [cfV, NdM.v]
  go_enter Tryz.func89, Tryz.ntmps89
  go_wp2
  refine bodyPost_ret (v := .agg #[.slice A1 l1.length c1, .slice A2 l2.length c2]) (by simp [results, Tryz.results89, go_sem]) rfl ?_
  exact ⟨rfl, ((Below.refl _ _).alloc (Nat.le_refl _) _).alloc (by simp) _⟩

set_option maxRecDepth 100000 in
theorem rings_any (C : Nat) (x y : NdM) (w : World) :
    Calls Tryz.prog 107 #[cfV C x y] w fun e w' => ∃ g o k : Nat, e = .returned (.slice (some ⟨g, o, none⟩) k k) ∧ (ringsN C x y).length = k ∧ w.heap.size ≤ g ∧ g < w'.heap.size ∧
      (∀ j z, (ringsN C x y)[j]? = some z → w'.cell? ⟨g, o + j, none⟩ = some z.v) ∧ Below w.heap.size w w' := by
  have HL := hide_ (fun u => listsOf_any C x y u)
  have HT := hide_ (fun u => Between_any C x y u)
  obtain ⟨A1, c1, l1⟩ := x
  obtain ⟨A2, c2, l2⟩ := y
  have HR := hide_ (show ringsN C (⟨A1, c1, l1⟩ : NdM) ⟨A2, c2, l2⟩ = if C % 2 = 1 then [⟨A1, c1, l1⟩, ⟨A2, c2, l2⟩] else [⟨A2, c2, l2⟩] from rfl)
  generalize ringsN C (⟨A1, c1, l1⟩ : NdM) ⟨A2, c2, l2⟩ = rs at HR ⊢
  simp only [cfV, NdM.v] at HL HT ⊢
  have HB0 := hide_ ((Below.refl w.heap.size w).alloc (Nat.le_refl _) (.cells #[.int .u64 C, .slice A1 l1.length c1, .slice A2 l2.length c2] 52))
  have HX0 := hide_ (BoxAt.new w #[.int .u64 C, .slice A1 l1.length c1, .slice A2 l2.length c2] 52)
  obtain ⟨W0, hW0⟩ : ∃ W0, w.alloc (.cells #[.int .u64 C, .slice A1 l1.length c1, .slice A2 l2.length c2] 52) = W0 := ⟨_, rfl⟩
  rw [hW0] at HB0 HX0
  have HW0 := hide_ hW0
  have hs0 : w.heap.size < W0.heap.size := HX0.out.lt
  clear hW0
  go_enter Tryz.func107, Tryz.ntmps107
  go_wp2_with fail
  rw [HW0.out]
  have c0 := HX0.out.cell 0
  have c1' := HX0.out.cell 1
  have c2' := HX0.out.cell 2
  simp at c0 c1' c2'
  go_wp2_with fail
  refine (HL.out _).mono ?_
  rintro e w1 ⟨rfl, hb1⟩
  have HB1 := hide_ (HB0.out.trans (hb1.mono HB0.out.size))
  have HX1 := hide_ (HX0.out.below hb1)
  clear hb1 c0 c1' c2'
  have HX2 := hide_ (HX1.out.alloc (.cells #[.slice A1 l1.length c1, .slice A2 l2.length c2] 143))
  have HY2 := hide_ (BoxAt.new w1 #[.slice A1 l1.length c1, .slice A2 l2.length c2] 143)
  have HB2 := hide_ (HB1.out.alloc HB1.out.size (.cells #[.slice A1 l1.length c1, .slice A2 l2.length c2] 143))
  obtain ⟨W2, hW2⟩ : ∃ W2, w1.alloc (.cells #[.slice A1 l1.length c1, .slice A2 l2.length c2] 143) = W2 := ⟨_, rfl⟩
  rw [hW2] at HX2 HY2 HB2
  have HW2 := hide_ hW2
  clear hW2
  have hg1 : w.heap.size ≤ w1.heap.size := HB1.out.size
  obtain ⟨g, hg⟩ : ∃ g, w1.heap.size = g := ⟨_, rfl⟩
  have HG := hide_ hg
  rw [hg] at HY2 hg1
  clear hg
  have hgW : g < W2.heap.size := HY2.out.lt
  have hwW : w.heap.size < W2.heap.size := HX2.out.lt
  have c0 := HX2.out.cell 0
  have c1' := HX2.out.cell 1
  have c2' := HX2.out.cell 2
  simp at c0 c1' c2'
  have d0 := HY2.out.cell 0
  have d1 := HY2.out.cell 1
  simp at d0 d1
  go_upto_region 2 with fail
  rw [HW2.out, HG.out]
  have HTT := HT.out W2
  by_cases hC : C % 2 = 1
  · have hd : decide (C % 2 = 1) = true := by simp [hC]
    rw [hd] at HTT
    have HTT := hide_ HTT
    rw [if_pos hC] at HR
    clear hC hd
    go_wp2_with fail
    refine HTT.out.mono ?_
    rintro e w3 ⟨rfl, hb3⟩
    have HB3 := hide_ (HB2.out.trans (hb3.mono HB2.out.size))
    have HD3 := hide_ (HY2.out.below hb3)
    have hgw : g < w3.heap.size := HD3.out.lt
    clear hb3
    go_wp2
    go_ret
    refine ⟨g, 0, 2, rfl, by rw [HR.out]; rfl, hg1, hgw, fun j z hz => ?_, HB3.out⟩
    rw [HR.out] at hz
    rw [HD3.out.cell]
    rcases j with _ | _ | j
    · simp at hz; subst hz; simp
    · simp at hz; subst hz; simp
    · simp at hz
  · have hd : decide (C % 2 = 1) = false := by simp; omega
    rw [hd] at HTT
    have HTT := hide_ HTT
    rw [if_neg hC] at HR
    clear hC hd
    go_wp2_with fail
    refine HTT.out.mono ?_
    rintro e w3 ⟨rfl, hb3⟩
    have HB3 := hide_ (HB2.out.trans (hb3.mono HB2.out.size))
    have HD3 := hide_ (HY2.out.below hb3)
    have hgw : g < w3.heap.size := HD3.out.lt
    clear hb3
    go_wp2
    go_ret
    refine ⟨g, 1, 1, rfl, by rw [HR.out]; rfl, hg1, hgw, fun j z hz => ?_, HB3.out⟩
    rw [HR.out] at hz
    rw [HD3.out.cell]
    rcases j with _ | j
    · simp at hz; subst hz; simp
    · simp at hz

/-! the reference's -/
theorem drew_more {w w' : World} (h : ∃ q, w' = w.drewN q) (n : Nat) : ∃ q, w'.drewN n = w.drewN q := by
  obtain ⟨q, rfl⟩ := h
  exact ⟨q + n, by simp [World.drewN, Nat.add_assoc]⟩

set_option maxRecDepth 100000 in
theorem refMay9q_any (l : List UInt8) (B : Nat) (A : Option Addr) (n c : Nat) (w : World) (hn : l.length = n) (hm : n ≤ maxLen) (h : Sees w B A (bv l)) :
    Calls Tryz.prog 97 #[.slice A n c] w fun e w' => e = .returned (.bool (mayN l)) ∧ ∃ q, w' = w.drewN q := by
  unfold maxLen at hm
  subst hn
  have HB := hide_ (fun k (hk : k < l.length) (hb : badN l k = true) => mayN_bad hk hb)
  have HG := hide_ (fun (hg : ∀ k, k < l.length → badN l k = false) => mayN_good hg)
  have HS := hide_ h
  have B0 := hide_ (fun (u : World) (hu : ∃ q, u = w.drewN q) => show Below B w u from by obtain ⟨q, rfl⟩ := hu; exact dN9 (Below.refl _ _) q)
  generalize mayN l = r at HB HG ⊢
  go_enter Tryz.func97, Tryz.ntmps97
  go_wp2
  go_loopw [6] (fun i wx => ∃ k : Nat, k ≤ l.length ∧ i = .int .i64 k ∧ (∃ q, wx = w.drewN q) ∧ Hid (∀ j, j < k → badN l j = false)) (fun i _ => l.length - (intOf i).toNat)
  case atStart => exact ⟨0, by omega, rfl, ⟨0, rfl⟩, hide_ (fun j hj => by omega)⟩
  case round =>
    obtain ⟨k, hk, rfl, hb, HK⟩ := hrel
    by_cases hlt : k < l.length
    · obtain ⟨b, o, rfl, hbB, hck⟩ := (HS.out.below (B0.out _ hb)).u8 hlt
      have hx := l[k].toNat_lt
      match k, hk, hlt, hck, HK, hx with
      | 0, hk, hlt, hck, HK, hx =>
        rw [Nat.add_zero] at hck
        have HZ := hide_ (badN_zero hlt)
        by_cases q0 : 63 < l[0].toNat
        · have hd : decide ((63 : Int) < (l[0].toNat : Int)) = true := by simp; omega
          have HR := hide_ (HB.out 0 hlt (by rw [HZ.out]; simp; omega))
          go_upto_region 4 with fail
          go_quiet (fail)
          go_wp2
          go_ret
          exact ⟨ret_bool9 HR.out.symm, drew_more hb _⟩
        · have HN := hide_ (show ∀ j, j < 1 → badN l j = false from fun j hj => by
            obtain rfl : j = 0 := by omega
            rw [HZ.out]
            simp
            omega)
          have hd : decide ((63 : Int) < (l[0].toNat : Int)) = false := by simp; omega
          go_upto_region 4 with fail
          go_quiet (fail)
          go_wp2
          go_round
          case rel => exact ⟨1, by omega, rfl, drew_more hb _, HN⟩
          case measure => simp [intOf]; omega
      | k + 1, hk, hlt, hck, HK, hx =>
        obtain ⟨b', o', he, -, hcp⟩ := (HS.out.below (B0.out _ hb)).u8 (show k < l.length by omega)
        injection he with he
        injection he with he1 he2
        subst he1 he2
        have hy := l[k].toNat_lt
        have HZ := hide_ (badN_succ hlt)
        by_cases q0 : 63 < l[k + 1].toNat
        · have hd : decide ((63 : Int) < (l[k + 1].toNat : Int)) = true := by simp; omega
          have HR := hide_ (HB.out _ hlt (by rw [HZ.out]; simp; omega))
          go_upto_region 4 with fail
          go_quiet (fail)
          go_wp2
          go_ret
          exact ⟨ret_bool9 HR.out.symm, drew_more hb _⟩
        · have hd : decide ((63 : Int) < (l[k + 1].toNat : Int)) = false := by simp; omega
          by_cases q1 : l[k + 1].toNat ≤ l[k].toNat
          · have hd1 : decide (l[k + 1].toNat ≤ l[k].toNat) = true := by simp [q1]
            have HR := hide_ (HB.out _ hlt (by rw [HZ.out]; simp; omega))
            go_upto_region 4 with fail
            go_quiet (fail)
            go_wp2
            go_ret
            exact ⟨ret_bool9 HR.out.symm, drew_more hb _⟩
          · have hd1 : decide (l[k + 1].toNat ≤ l[k].toNat) = false := by simp [q1]
            have HN := hide_ (show ∀ j, j < k + 2 → badN l j = false from fun j hj => by
              by_cases hj' : j < k + 1
              · exact HK.out j hj'
              · obtain rfl : j = k + 1 := by omega
                rw [HZ.out]
                simp
                omega)
            go_upto_region 4 with fail
            go_quiet (fail)
            go_wp2
            go_round
            case rel => exact ⟨k + 2, by omega, by go_num, drew_more hb _, HN⟩
            case measure => simp [intOf]; omega
    · obtain rfl : k = l.length := by omega
      have HR := hide_ (HG.out HK.out)
      go_wp2
      go_ret
      exact ⟨ret_bool9 HR.out.symm, hb⟩

set_option maxRecDepth 100000 in
theorem has10_any (l : List UInt8) (x : UInt8) (B : Nat) (A : Option Addr) (n c : Nat) (w : World) (hn : l.length = n) (hm : n ≤ maxLen) (h : Sees w B A (bv l)) :
    Calls Tryz.prog 146 #[.slice A n c, .int .u8 (x.toNat : Int)] w fun e w' => e = .returned (.bool (l.contains x)) ∧ w = w' := by
  unfold maxLen at hm
  subst hn
  have HT0 := hide_ (show ∀ k (h : k < l.length), l[k] = x → l.contains x = true from fun k h e => List.contains_iff_mem.2 (e ▸ List.getElem_mem h))
  have HF0 := hide_ (show (l.take l.length).contains x = l.contains x by rw [List.take_length])
  generalize l.contains x = r at HT0 HF0 ⊢
  go_enter Tryz.func146, Tryz.ntmps146
  go_wp2
  go_loop [8] (fun i => ∃ k : Nat, k ≤ l.length ∧ i = .int .i64 k ∧ Hid ((l.take k).contains x = false)) (fun i => l.length - (intOf i).toNat)
  case atStart => exact ⟨0, by omega, rfl, hide_ rfl⟩
  case round =>
    obtain ⟨k, hk, rfl, HK⟩ := hrel
    by_cases hlt : k < l.length
    · obtain ⟨b, o, rfl, hbB, hck⟩ := h.u8 hlt
      have HC := hide_ (contains_take x hlt)
      by_cases hx : l[k] = x
      · have HT := hide_ (HT0.out k hlt hx)
        have hd : ((l[k].toNat : Int) == (x.toNat : Int)) = true := by rw [hx]; simp
        clear hx
        go_wp2
        go_ret
        exact ⟨ret_bool9 HT.out.symm, rfl⟩
      · have hd : ((l[k].toNat : Int) == (x.toNat : Int)) = false := by
          rw [beq_eq_false_iff_ne]
          intro e
          exact hx (UInt8.toNat_inj.1 (by omega))
        have HX := hide_ (show (l[k] == x) = false from beq_eq_false_iff_ne.2 hx)
        clear hx
        go_wp2
        go_round
        case rel => exact ⟨k + 1, by omega, by go_num, hide_ (by rw [HC.out, HK.out, HX.out]; rfl)⟩
        case measure => simp [intOf]; omega
    · obtain rfl : k = l.length := by omega
      have HR := hide_ (HF0.out.symm.trans HK.out)
      go_wp2
      go_ret
      exact ⟨ret_bool9 HR.out.symm, rfl⟩

theorem othN_take (l m : List UInt8) {k : Nat} (hk : k < l.length) : othN (l.take (k + 1)) m = othN (l.take k) m + if m.contains l[k] then 0 else 1 := by
  rw [othN, othN, List.take_succ_eq_append_getElem hk, List.countP_append, List.countP_singleton]
  cases m.contains l[k] <;> rfl
theorem othN_le (l m : List UInt8) : othN l m ≤ l.length := List.countP_le_length

set_option maxRecDepth 100000 in
theorem others_any (x y : NdM) (B : Nat) (w : World) (hx : NdM.ok w B x) (hy : NdM.ok w B y) :
    Calls Tryz.prog 98 #[x.v, y.v] w fun e w' => e = .returned (.int .i64 (othN x.l y.l : Nat)) ∧ w' = w := by
  obtain ⟨A, c, l⟩ := x
  obtain ⟨A2, c2, m⟩ := y
  obtain ⟨hl, hs⟩ := hx
  obtain ⟨hl2, hs2⟩ := hy
  simp only [NdM.v] at hl hs hl2 hs2 ⊢
  have HH := hide_ (fun (z : UInt8) => has10_any m z B A2 m.length c2 w rfl (by unfold maxLen; omega) hs2)
  have HST := hide_ (fun k (hk : k < l.length) => othN_take l m hk)
  have HFIN := hide_ (show othN (l.take l.length) m = othN l m by rw [List.take_length])
  have HLE := hide_ (fun k => show othN (l.take k) m ≤ 100 from Nat.le_trans (othN_le _ _) (by rw [List.length_take]; omega))
  go_enter Tryz.func98, Tryz.ntmps98
  go_wp2
  go_loop [5, 9] (fun r i => ∃ k : Nat, k ≤ l.length ∧ i = .int .i64 k ∧ r = .int .i64 (othN (l.take k) m : Nat)) (fun _ i => l.length - (intOf i).toNat)
  case atStart => exact ⟨0, by omega, rfl, rfl⟩
  case round =>
    obtain ⟨k, hk, rfl, rfl⟩ := hrel
    have hle := HLE.out k
    by_cases hlt : k < l.length
    · obtain ⟨b, o, rfl, hbB, hck⟩ := hs.u8 hlt
      have HS := hide_ (HST.out k hlt)
      have HQ := hide_ (HH.out l[k])
      obtain ⟨q, hq⟩ : ∃ q, m.contains l[k] = q := ⟨_, rfl⟩
      rw [hq] at HS HQ
      clear hq
      cases q with
      | true =>
        go_wp2_with fail
        refine HQ.out.mono ?_
        rintro e w1 ⟨rfl, rfl⟩
        go_wp2
        go_round
        case rel => exact ⟨k + 1, by omega, by go_num, by rw [HS.out]; rfl⟩
        case measure => simp [intOf]; omega
      | false =>
        go_wp2_with fail
        refine HQ.out.mono ?_
        rintro e w1 ⟨rfl, rfl⟩
        go_wp2
        go_round
        case rel => exact ⟨k + 1, by omega, by go_num, by rw [HS.out]; go_num⟩
        case measure => simp [intOf]; omega
    · obtain rfl : k = l.length := by omega
      rw [HFIN.out]
      go_wp2
      go_ret
      exact ⟨rfl, rfl⟩

theorem bit_test (s n : Nat) : decide (s / 2 ^ n % 2 = 1) = s.testBit n := by
  rw [Nat.testBit_eq_decide_div_mod_eq]

theorem cntN_take (l : List UInt8) (s : Nat) {k : Nat} (hk : k < l.length) : cntN (l.take (k + 1)) s = cntN (l.take k) s + if s.testBit l[k].toNat then 1 else 0 := by
  rw [cntN, cntN, List.take_succ_eq_append_getElem hk, List.countP_append, List.countP_singleton]
theorem cntN_le (l : List UInt8) (s : Nat) : cntN l s ≤ l.length := List.countP_le_length

end Go.Proofs.YtecbpmnolgkllaaGreat