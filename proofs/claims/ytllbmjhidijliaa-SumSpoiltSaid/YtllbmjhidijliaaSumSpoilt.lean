/-
  scrutineerlaw02.SumSpoilt answers true for every input and leaves its input as it was; no condition.
-/
import Derived.Test.YtllbmjhidijliaaMark
import Derived.Test.YtllbmjhidijliaaLaw
namespace Go.Proofs.Ytllbmjhidijliaa.sumSpoilt
open Go.ChangeShapes Go.WideShapes Go.ChangeAt Go.RowKit

/-- the bytes r, of which k from the one numbered j on are others -/
def spoil (r : List UInt8) (j v : Nat) : Nat → List UInt8
  | 0 => r
  | k + 1 => (spoil r j v k).set (j + k) ((spoil r j v k).getD (j + k) 0 ^^^ UInt8.ofNat (v / 2 ^ (8 * k)))
theorem spoil_length (r : List UInt8) (j v : Nat) : ∀ k, (spoil r j v k).length = r.length
  | 0 => rfl
  | k + 1 => by rw [spoil, List.length_set, spoil_length r j v k]
theorem set_at (p s : List UInt8) (a b : UInt8) (k : Nat) (h : p.length = k) : (p ++ a :: s).set k b = p ++ b :: s := by
  subst h
  simp
theorem get_at (p s : List UInt8) (a : UInt8) (k : Nat) (h : p.length = k) : (p ++ a :: s).getD k 0 = a := by
  subst h
  simp
theorem spoil_four (p s : List UInt8) (a b c d : UInt8) (v : Nat) :
    spoil (p ++ [a, b, c, d] ++ s) p.length v 4 = p ++ [a ^^^ UInt8.ofNat v, b ^^^ UInt8.ofNat (v / 256), c ^^^ UInt8.ofNat (v / 65536), d ^^^ UInt8.ofNat (v / 16777216)] ++ s := by
  have h0 : spoil (p ++ [a, b, c, d] ++ s) p.length v 0 = p ++ a :: (b :: c :: d :: s) := by simp [spoil]
  have h1 : spoil (p ++ [a, b, c, d] ++ s) p.length v 1 = (p ++ [a ^^^ UInt8.ofNat v]) ++ b :: (c :: d :: s) := by
    rw [spoil, h0, get_at _ _ _ _ (by simp), set_at _ _ _ _ _ (by simp)]
    simp
  have h2 : spoil (p ++ [a, b, c, d] ++ s) p.length v 2 = (p ++ [a ^^^ UInt8.ofNat v, b ^^^ UInt8.ofNat (v / 256)]) ++ c :: (d :: s) := by
    rw [spoil, h1, get_at _ _ _ _ (by simp), set_at _ _ _ _ _ (by simp)]
    simp
  have h3 : spoil (p ++ [a, b, c, d] ++ s) p.length v 3 = (p ++ [a ^^^ UInt8.ofNat v, b ^^^ UInt8.ofNat (v / 256), c ^^^ UInt8.ofNat (v / 65536)]) ++ d :: s := by
    rw [spoil, h2, get_at _ _ _ _ (by simp), set_at _ _ _ _ _ (by simp)]
    simp
  rw [spoil, h3, get_at _ _ _ _ (by simp), set_at _ _ _ _ _ (by simp)]
  simp
theorem four_at (r : List UInt8) (j : Nat) (h : j + 4 ≤ r.length) : ∃ a b c d, r = r.take j ++ [a, b, c, d] ++ r.drop (j + 4) := by
  have e : r = r.take j ++ r.drop j := (List.take_append_drop j r).symm
  have hl : (r.drop j).length = r.length - j := List.length_drop
  have hd : r.drop (j + 4) = (r.drop j).drop 4 := by rw [List.drop_drop]
  rw [hd]
  match hr : r.drop j, hl with
  | a :: b :: c :: d :: t, _ => exact ⟨a, b, c, d, e.trans (by rw [hr]; simp)⟩
  | [], hl => simp at hl; omega
  | [_], hl => simp at hl; omega
  | [_, _], hl => simp at hl; omega
  | [_, _, _], hl => simp at hl; omega

theorem spoil_no (l : List UInt8) (j v : Nat) (hj : j ≤ l.length) (hv : v < 4294967296) (h0 : v ≠ 0) : fitsL (spoil (markB l) j v 4) = ([], 5) := by
  have hlen := spoil_length (markB l) j v 4
  have hml := markB_length l
  refine fitsL_no (by omega) fun he => ?_
  obtain ⟨a, b, c, d, hr⟩ := four_at (markB l) j (by omega)
  have hp : ((markB l).take j).length = j := by rw [List.length_take]; omega
  have h4 := spoil_four ((markB l).take j) ((markB l).drop (j + 4)) a b c d v
  rw [hp, ← hr] at h4
  have hne := crcR_four ((markB l).take j) ((markB l).drop (j + 4)) a b c d v hv h0
  rw [← hr, ← h4] at hne
  apply hne
  have k1 : crcR 4294967295 (markB l) = bitsN 32 4294967295 := crcR_mark l
  have k2 : crcR 4294967295 (spoil (markB l) j v 4) = bitsN 32 4294967295 := by
    rw [← he]
    exact crcR_mark _
  rw [k1, k2]

/-- a block that begins with these bytes -/
def RowIs (w : World) (g : Nat) (l : List UInt8) : Prop := ∃ cur : Array Value, w.heap[g]? = some (.cells cur 5 (0, 0)) ∧ cur.toList.take l.length = bv l
theorem RowIs.get {w : World} {g : Nat} {l : List UInt8} (h : RowIs w g l) {j : Nat} (hj : j < l.length) : w.cell? ⟨g, j, none⟩ = some (.int .u8 ((l.getD j 0).toNat : Int)) ∧ w.frozen? ⟨g, j, none⟩ = false := by
  obtain ⟨cur, hg, hc⟩ := h
  refine ⟨?_, by simp [World.frozen?, hg]⟩
  rw [cell_of_row w g j _ _ _ hg]
  have e := congrArg (fun x => x[j]?) hc
  simp only [List.getElem?_take, if_pos hj, bv_getElem?] at e
  rw [← Array.getElem?_toList, e, List.getD_eq_getElem?_getD, List.getElem?_eq_getElem hj]
  rfl
theorem RowIs.set_ {w : World} {g : Nat} {l : List UInt8} (h : RowIs w g l) {j : Nat} (b : UInt8) : RowIs (w.setCell ⟨g, j, none⟩ (.int .u8 (b.toNat : Int))) g (l.set j b) := by
  obtain ⟨cur, hg, hc⟩ := h
  refine ⟨_, heap_set j _ hg, ?_⟩
  rw [Array.toList_setIfInBounds, List.length_set, List.take_set, hc]
  simp [bv, List.map_set]
theorem RowIs.sees {w : World} {g : Nat} {l : List UInt8} (h : RowIs w g l) : Sees w w.heap.size (some ⟨g, 0, none⟩) (bv l) := fun hn => by
  have hg : g < w.heap.size := by
    obtain ⟨cur, hg, _⟩ := h
    exact (Array.getElem?_eq_some_iff.1 hg).1
  refine ⟨_, rfl, hg, fun j u hu => ?_⟩
  have hj : j < l.length := by
    have := (List.getElem?_eq_some_iff.1 hu).1
    rwa [bv_length] at this
  have hadd : (⟨g, 0, none⟩ : Addr).add j = ⟨g, j, none⟩ := by unfold Addr.add; split <;> simp_all
  rw [hadd, (h.get hj).1, ← hu, bv_getElem?, List.getD_eq_getElem?_getD, List.getElem?_eq_getElem hj]
  rfl
theorem own_row {w : World} {base n c : Nat} {A : Option Addr} {l : List UInt8} (h : w.ownsRow base 5 1 (.slice A n c) n (bv l)) (hn : l.length = n) (h0 : 0 < n) : ∃ g, A = some ⟨g, 0, none⟩ ∧ base ≤ g ∧ n ≤ c ∧ RowIs w g l := by
  rcases h.2 with ⟨_, h0'⟩ | ⟨g, cap, cur, hv, hb, hg, hc, _, _, hx⟩
  · omega
  · injection hv with hA _ hcap
    subst hA hcap
    exact ⟨g, rfl, hb, hc, cur, hg, by rw [hn]; rwa [Nat.mul_one] at hx⟩

theorem walk_long (A : Option Addr) (n c : Nat) (at_ by_ : Int) (w : World) (h : 2000 < n ∨ at_ < 0 ∨ (n : Int) < at_ ∨ by_ = 0) (hm : n ≤ maxLen) :
    Calls Try.prog 5 #[.slice A n c, .int .i64 at_, .int .u32 by_] w fun e w' => e = .returned (.bool true) ∧ Below w.heap.size w w' := by
  unfold maxLen at hm
  by_cases h1 : 2000 < n
  · clear h
    go_enter Try.func5, Try.ntmps5
    go_wp2_with fail
    refine (awake_any _).mono ?_
    rintro e w1 ⟨rfl, hb1⟩
    go_wp2
    go_ret
    exact ⟨rfl, hb1⟩
  · by_cases h2 : at_ < 0
    · clear h
      go_enter Try.func5, Try.ntmps5
      go_wp2_with fail
      refine (awake_any _).mono ?_
      rintro e w1 ⟨rfl, hb1⟩
      go_wp2
      go_ret
      exact ⟨rfl, hb1⟩
    · by_cases h3 : (n : Int) < at_
      · clear h
        go_enter Try.func5, Try.ntmps5
        go_wp2_with fail
        refine (awake_any _).mono ?_
        rintro e w1 ⟨rfl, hb1⟩
        go_wp2
        go_ret
        exact ⟨rfl, hb1⟩
      · obtain rfl : by_ = 0 := by omega
        clear h
        go_enter Try.func5, Try.ntmps5
        go_wp2_with fail
        refine (awake_any _).mono ?_
        rintro e w1 ⟨rfl, hb1⟩
        go_wp2
        go_ret
        exact ⟨rfl, hb1⟩

theorem walk_short (l : List UInt8) (A : Option Addr) (n c j v : Nat) (w : World) (hn : l.length = n) (h1 : n ≤ 2000) (hj : j ≤ n) (hv : v < 4294967296) (h0 : 0 < v) (hs : Sees w w.heap.size A (bv l)) :
    Calls Try.prog 5 #[.slice A n c, .int .i64 j, .int .u32 v] w fun e w' => e = .returned (.bool true) ∧ Below w.heap.size w w' := by
  obtain ⟨r, hr⟩ : ∃ r, markB l = r := ⟨_, rfl⟩
  have hno := spoil_no l j v (by omega) hv (by omega)
  have hrl : r.length = n + 4 := by rw [← hr, markB_length, hn]
  rw [hr] at hno
  have HR := hide_ hr
  have HN := hide_ hn
  have HL := hide_ hrl
  have HF := hide_ hno
  have hv0 : ((v : Int) == 0) = false := beq_eq_false_iff_ne.2 (by omega)
  have hlen : ((r.length : Int) != (n : Int) + 4) = false := by simp; omega
  clear hr hn hrl hno
  go_enter Try.func5, Try.ntmps5
  go_wp2_with fail
  refine (Mark_any l r w.heap.size A n c w HN.out HR.out (by omega) hs (Nat.le_refl _)).mono ?_
  rintro e w1 ⟨A1, c1, rfl, hown1, hb1⟩
  obtain ⟨g, rfl, hg, hrc, hrow⟩ := own_row hown1 rfl (by rw [HL.out]; omega)
  have hr4 : r.length = n + 4 := HL.out
  rw [hr4] at hrc ⊢
  clear hr4 hlen hown1
  go_wp2
  go_loopw [8] (fun i wr => ∃ k : Nat, k ≤ 4 ∧ i = .int .i64 k ∧ RowIs wr g (spoil r j v k) ∧ Below w.heap.size w wr) (fun i _ => 4 - (intOf i).toNat)
  case atStart => exact ⟨0, by omega, rfl, hrow, hb1⟩
  case round =>
    obtain ⟨k, hk, rfl, hrk, hb⟩ := hrel
    have hsl : (spoil r j v k).length = n + 4 := by rw [spoil_length]; exact HL.out
    by_cases hlt : k < 4
    · obtain ⟨hc, hf⟩ := hrk.get (j := j + k) (by omega)
      have hset := hrk.set_ (j := j + k) ((spoil r j v k).getD (j + k) 0 ^^^ UInt8.ofNat (v / 2 ^ (8 * k)))
      have hs1 : spoil r j v (k + 1) = (spoil r j v k).set (j + k) ((spoil r j v k).getD (j + k) 0 ^^^ UInt8.ofNat (v / 2 ^ (8 * k))) := rfl
      rw [← hs1] at hset
      clear hs1
      have hb8 : bits .xor .u8 (((spoil r j v k).getD (j + k) 0).toNat : Int) ((v : Int) / 2 ^ (8 * k) % 256) = (((spoil r j v k).getD (j + k) 0 ^^^ UInt8.ofNat (v / 2 ^ (8 * k))).toNat : Int) := by
        have e : (v : Int) / 2 ^ (8 * k) % 256 = ((v / 2 ^ (8 * k) % 256 : Nat) : Int) := by simp
        rw [e, u8_xor_nat _ _ (UInt8.toNat_lt _) (by omega), UInt8.toNat_xor]
        simp
      generalize (spoil r j v k).getD (j + k) 0 = x at hc hset hb8
      generalize x ^^^ UInt8.ofNat (v / 2 ^ (8 * k)) = y at hset hb8
      have hsum : IntKind.i64.wrap ((j : Int) + (k : Int)) = (j : Int) + (k : Int) := IntWalk.i64_in _ (by omega)
      have hmul : IntKind.i64.wrap (8 * (k : Int)) = 8 * (k : Int) := IntWalk.i64_in _ (by omega)
      have hnat : ((j : Int) + (k : Int)).toNat = j + k := by omega
      have hnat2 : (8 * (k : Int)).toNat = 8 * k := by omega
      have i0 : (0 : Int) ≤ (j : Int) + (k : Int) := by omega
      have i1 : (j : Int) + (k : Int) < (n : Int) + 4 := by omega
      go_wp2
      go_region
      go_wp2
      go_roundw
      case rel => exact ⟨k + 1, by omega, by go_num, hset, (hb.setCell hg _).drew⟩
      case measure => simp [intOf]; omega
    · obtain rfl : k = 4 := by omega
      go_wp2_with fail
      refine (Fits_to (spoil r j v 4) [] 5 (some ⟨g, 0, none⟩) (n + 4) c1 wr HF.out hsl (by omega) hrk.sees hrc).mono ?_
      rintro e w2 ⟨A2, n2, c2, rfl, hn2, hs2, hb2⟩
      obtain rfl : n2 = 0 := by simpa using hn2.symm
      have hb02 := hb.trans (hb2.mono hb.size)
      go_wp2_with fail
      refine (awake_any _).mono ?_
      rintro e w3 ⟨rfl, hb3⟩
      go_wp2
      go_ret
      exact ⟨rfl, hb02.trans (hb3.mono hb02.size)⟩

theorem own : ownKnob Try.prog.godebug = none := by kernel_rfl
theorem laid : laidOutB Try.prog = true := by kernel_rfl
theorem cells8 : Try.prog.cellsOf 5 = 1 := by kernel_rfl

theorem contract (H : Type) (enc : TypeId × Value → H) (W : World) (base : Nat) (args : Array Value) (ds gs : List (DataW H)) (before : List MemPlace)
    (hval : ∀ (j : Nat) t v, Try.f5.params[j]? = some t → args[j]? = some v → Value.okWide Try.prog W .any base t v)
    (hW : DataW.Whole enc Try.prog Try.f5.params.toList Rows.sumSpoiltSpec.vars false W args.toList ds gs before) :
    Calls Try.prog 5 args W fun e W' => ∃ v, e = .returned v ∧ Rows.sumSpoiltSpec.post enc Try.prog Try.f5 false true false false W args v W' := by
  have hW' := hW
  obtain ⟨p, q, hA0, hV, rfl, hfz, hnd⟩ := hW
  have hA : DataW.TrodAll enc Try.prog W 0 (fun _ => true) true Try.f5.params.toList args.toList ds p := hA0
  rw [Try.params5] at hA hval
  obtain ⟨v0, vs0, d0, ds0, p0, q0, hargs, rfl, rfl, h0, r0⟩ := trodAll_cons hA
  obtain ⟨v1, vs1, d1, ds1, p1, q1, rfl, rfl, rfl, h1, r1⟩ := trodAll_cons r0
  obtain ⟨v2, vs2, d2, ds2, p2, q2, rfl, rfl, rfl, h2, r2⟩ := trodAll_cons r1
  obtain ⟨rfl, rfl, rfl⟩ := trodAll_nil r2
  obtain rfl : args = #[v0, v1, v2] := by cases args; simp_all
  obtain ⟨rfl, rfl⟩ := trodVars_none hV
  obtain ⟨A0, n0, c0, l0, rfl, e0, m0, M0, s0⟩ := open_bytes Try.underlying22 Try.underlying5 cells8 (hval 0 22 v0 rfl rfl) h0
  obtain ⟨a1, rfl, rfl, rfl, w1⟩ := open_int Try.underlying3 (hval 1 3 v1 rfl rfl) h1
  have b1 : -9223372036854775808 ≤ a1 ∧ a1 ≤ 9223372036854775807 := by simpa [Lit.wf, IntKind.min, IntKind.max, IntKind.signed, IntKind.bits] using w1
  obtain ⟨a2, rfl, rfl, rfl, w2⟩ := open_int Try.underlying24 (hval 2 24 v2 rfl rfl) h2
  have b2 : 0 ≤ a2 ∧ a2 ≤ 4294967295 := by simpa [Lit.wf, IntKind.min, IntKind.max, IntKind.signed, IntKind.bits] using w2
  have fin : ∀ (e : Ending) (W' : World), e = .returned (.bool true) ∧ Below W.heap.size W W' → ∃ v, e = .returned v ∧ Rows.sumSpoiltSpec.post enc Try.prog Try.f5 false true false false W #[.slice A0 n0 c0, .int .i64 a1, .int .u32 a2] v W' :=
    fun e W' ⟨he, hb⟩ => ⟨_, he, law_post laid (by kernel_rfl) rfl rfl rfl Try.underlying4 hW' hb⟩
  by_cases hlong : 2000 < n0 ∨ a1 < 0 ∨ (n0 : Int) < a1 ∨ a2 = 0
  · exact (walk_long A0 n0 c0 a1 a2 W hlong (Nat.le_trans m0 M0)).mono fin
  · obtain ⟨j, rfl⟩ := Int.eq_ofNat_of_zero_le (show 0 ≤ a1 by omega)
    obtain ⟨v, rfl⟩ := Int.eq_ofNat_of_zero_le b2.1
    exact (walk_short l0 A0 n0 c0 j v W e0 (by omega) (by omega) (by omega) (by omega) s0).mono fin

set_option maxRecDepth 100000 in
theorem lifted (os : Os) (started : os.Started) (H : Type) (enc : TypeId × Value → H) :
    ReturnsInHanded {} Try.checked os 5 .any (Rows.sumSpoiltSpec.pre6 enc Try.prog Try.f5 Rows.sumSpoiltRow.domain false) (Rows.sumSpoiltSpec.post enc Try.prog Try.f5 false true false false) := by
  refine returnsInHanded_of_change (C := Try.checked) (s := Rows.sumSpoiltSpec) own started (by kernel_rfl) Try.func5
    (ChangeSpec.witness6 (enc := enc) (C := Try.checked) false ⟨#[], #[.slice none 0 0, .int .i64 0, .int .u32 0], []⟩ 8 (by kernel_rfl) (by kernel_rfl) (by kernel_rfl) (by kernel_rfl)) ?_
  intro W base args ds gs before hval hW _ _
  exact contract H enc W base args ds gs before hval hW

theorem proved : Rows.SumSpoiltSaid :=
  OpenClaim.holds_of_wide 5 Try.f5 rfl rfl rfl rfl rfl rfl rfl ⟨rfl, rfl, rfl, rfl, rfl⟩ rfl rfl rfl rfl rfl (by kernel_rfl) Try.func5 (by kernel_rfl)
    (of_decide_eq_true (by kernel_rfl)) (by unfold Func.isWrapper; first | (rw [if_pos (by decide +kernel)]; kernel_rfl) | (rw [if_neg (by decide +kernel)]; exact ⟨rfl, rfl⟩))
    (fun os started H enc _ => lifted os started H enc)
end Go.Proofs.Ytllbmjhidijliaa.sumSpoilt
