/-
  slices.BinarySearch at bytes.
-/
import Derived.Test.YtlcgihdphdkhpaaSort8
import Derived.Test.YtlcgihdphdkhpaaConfM
namespace Go.Proofs.Ytlcgihdphdkhpaa
open Go.RowKit

/-- how many stand below -/
def lowN (l : List UInt8) (x : UInt8) : Nat := (l.filter fun y => decide (y.toNat < x.toNat)).length
/-- those below stand ahead of all others -/
theorem low_split {l : List UInt8} {x : UInt8} (h : l.Pairwise fun a b => a.toNat < b.toNat) : l = (l.filter fun y => decide (y.toNat < x.toNat)) ++ l.filter fun y => decide (x.toNat ≤ y.toNat) := by
  induction l with
  | nil => rfl
  | cons y l ih =>
    rw [List.pairwise_cons] at h
    have ih := ih h.2
    by_cases hy : y.toNat < x.toNat
    · rw [List.filter_cons_of_pos (by simpa using hy), List.filter_cons_of_neg (by simp; omega), List.cons_append, ← ih]
    · have h0 : (l.filter fun z => decide (z.toNat < x.toNat)) = [] := List.filter_eq_nil_iff.2 fun z hz => by
        have := h.1 z hz
        simp
        omega
      rw [List.filter_cons_of_neg (by simpa using hy), h0, List.filter_cons_of_pos (by simp; omega), List.nil_append]
      rw [h0, List.nil_append] at ih
      rw [← ih]
theorem low_at {l : List UInt8} {x : UInt8} {i : Nat} (_h : l.Pairwise fun a b => a.toNat < b.toNat) (hi : i ≤ l.length) (h1 : ∀ t (ht : t < l.length), t < i → l[t].toNat < x.toNat) (h2 : ∀ t (ht : t < l.length), i ≤ t → x.toNat ≤ l[t].toNat) :
    l.take i = (l.filter fun y => decide (y.toNat < x.toNat)) ∧ l.drop i = (l.filter fun y => decide (x.toNat ≤ y.toNat)) := by
  have e : l = l.take i ++ l.drop i := (List.take_append_drop i l).symm
  have a1 : (l.take i).filter (fun y => decide (y.toNat < x.toNat)) = l.take i := List.filter_eq_self.2 fun y hy => by
    obtain ⟨t, ht, rfl⟩ := List.getElem_of_mem hy
    rw [List.length_take] at ht
    rw [List.getElem_take]
    simpa using h1 t (by omega) (by omega)
  have a2 : (l.take i).filter (fun y => decide (x.toNat ≤ y.toNat)) = [] := List.filter_eq_nil_iff.2 fun y hy => by
    obtain ⟨t, ht, rfl⟩ := List.getElem_of_mem hy
    rw [List.length_take] at ht
    rw [List.getElem_take]
    have := h1 t (by omega) (by omega)
    simp
    omega
  have b1 : (l.drop i).filter (fun y => decide (y.toNat < x.toNat)) = [] := List.filter_eq_nil_iff.2 fun y hy => by
    obtain ⟨t, ht, rfl⟩ := List.getElem_of_mem hy
    rw [List.length_drop] at ht
    rw [List.getElem_drop]
    have := h2 (i + t) (by omega) (by omega)
    simp
    omega
  have b2 : (l.drop i).filter (fun y => decide (x.toNat ≤ y.toNat)) = l.drop i := List.filter_eq_self.2 fun y hy => by
    obtain ⟨t, ht, rfl⟩ := List.getElem_of_mem hy
    rw [List.length_drop] at ht
    rw [List.getElem_drop]
    simpa using h2 (i + t) (by omega) (by omega)
  constructor
  · conv => rhs; rw [e, List.filter_append, a1, b1, List.append_nil]
  · conv => rhs; rw [e, List.filter_append, a2, b2, List.nil_append]

/-- what a search leaves -/
def BsOut8 (l : List UInt8) (x : UInt8) (w : World) (e : Ending) (w' : World) : Prop :=
  ∃ i : Nat, e = .returned (.tuple #[.int .i64 i, .bool (l.contains x)]) ∧ w = w' ∧ i ≤ l.length ∧ (∀ t (ht : t < l.length), t < i → l[t].toNat < x.toNat) ∧ (∀ t (ht : t < l.length), i ≤ t → x.toNat ≤ l[t].toNat)

theorem nanS8_any (a : Int) (w : World) : Calls Try.prog 88 #[.int .u8 a] w fun e w' => e = .returned (.bool false) ∧ w = w' := by
  have h : (a != a) = false := by simp
  go_enter Try.func88, Try.ntmps88
  go_wp2
  go_ret
  exact ⟨rfl, rfl⟩

set_option maxRecDepth 100000 in
set_option maxHeartbeats 1600000 in
theorem srch8_any (l : List UInt8) (x : UInt8) (B : Nat) (A : Option Addr) (n c : Nat) (w : World) (hn : l.length = n) (hn2 : n ≤ 100) (hs : Sees w B A (bv l)) (hr : l.Pairwise fun a b => a.toNat < b.toNat) :
    Calls Try.prog 70 #[.slice A n c, .int .u8 (x.toNat : Int)] w (BsOut8 l x w) := by
  subst hn
  have HS := hide_ hs
  have HR := hide_ hr
  have HL := hide_ (fun (a : UInt8) (u : World) => less8_any a.toNat x.toNat u)
  have HN := hide_ (fun (a : Int) (u : World) => nanS8_any a u)
  have HIN := hide_ (fun t (ht : t < l.length) (h1 : ∀ s (hs : s < l.length), s < t → l[s].toNat < x.toNat) (h2 : ∀ s (hs : s < l.length), t ≤ s → x.toNat ≤ l[s].toNat) => show (decide (l[t].toNat = x.toNat)) = l.contains x from by
    rw [Bool.eq_iff_iff, decide_eq_true_eq, List.contains_iff_mem]
    constructor
    · intro h
      rw [← UInt8.toNat_inj.1 h]
      exact List.getElem_mem ht
    · intro h
      obtain ⟨s, hs, e⟩ := List.getElem_of_mem h
      rcases Nat.lt_trichotomy s t with h3 | rfl | h3
      · have := h1 s hs h3
        rw [e] at this
        omega
      · rw [e]
      · have := List.pairwise_iff_getElem.1 hr t s ht hs h3
        have h4 := h2 t ht (Nat.le_refl _)
        rw [e] at this
        omega)
  have HOUT := hide_ (fun (h1 : ∀ s (hs : s < l.length), s < l.length → l[s].toNat < x.toNat) => show false = l.contains x from by
    symm
    rw [← Bool.not_eq_true, List.contains_iff_mem]
    intro h
    obtain ⟨s, hs, e⟩ := List.getElem_of_mem h
    have := h1 s hs hs
    rw [e] at this
    omega)
  obtain ⟨r, hrr⟩ : ∃ r, l.contains x = r := ⟨_, rfl⟩
  unfold BsOut8
  simp only [hrr] at HIN HOUT ⊢
  clear hs hr hrr
  go_enter Try.func70, Try.ntmps70
  go_wp2
  go_loop [7, 8] (fun i j => ∃ a b : Nat, a ≤ b ∧ b ≤ l.length ∧ i = .int .i64 a ∧ j = .int .i64 b ∧ Hid (∀ t (ht : t < l.length), t < a → l[t].toNat < x.toNat) ∧ Hid (∀ t (ht : t < l.length), b ≤ t → x.toNat ≤ l[t].toNat)) (fun i j => (intOf j).toNat - (intOf i).toNat)
  case atStart => exact ⟨0, l.length, Nat.zero_le _, Nat.le_refl _, rfl, rfl, hide_ (fun t _ ht => absurd ht (by omega)), hide_ (fun t h ht => absurd h (by omega))⟩
  case round =>
    obtain ⟨a, b, hab, hbn, rfl, rfl, HA, HBB⟩ := hrel
    by_cases hlt : a < b
    · have hm1 : a ≤ (a + b) / 2 := by omega
      have hm2 : (a + b) / 2 < b := by omega
      have hml : (a + b) / 2 < l.length := by omega
      obtain ⟨tb, ot, rfl, hab2, e0⟩ := HS.out.u8 hml
      have HLL := hide_ (HL.out l[(a + b) / 2] w)
      by_cases hlk : l[(a + b) / 2].toNat < x.toNat
      · have hd : decide (l[(a + b) / 2].toNat < x.toNat) = true := by simp [hlk]
        rw [hd] at HLL
        have HJ2 := hide_ (show ∀ t (ht : t < l.length), t < (a + b) / 2 + 1 → l[t].toNat < x.toNat from fun t ht h => by
          by_cases e : t = (a + b) / 2
          · subst e
            exact hlk
          · have := List.pairwise_iff_getElem.1 HR.out t ((a + b) / 2) ht hml (by omega)
            omega)
        clear hd hlk
        go_wp2_with fail
        refine HLL.out.mono ?_
        rintro en w2 ⟨rfl, rfl⟩
        go_wp2
        go_round
        case rel => exact ⟨(a + b) / 2 + 1, b, by omega, hbn, by go_num, rfl, HJ2, HBB⟩
        case measure => simp [intOf]; omega
      · have hd : decide (l[(a + b) / 2].toNat < x.toNat) = false := by simp; omega
        rw [hd] at HLL
        have HJ2 := hide_ (show ∀ t (ht : t < l.length), (a + b) / 2 ≤ t → x.toNat ≤ l[t].toNat from fun t ht h => by
          by_cases e : t = (a + b) / 2
          · subst e
            omega
          · have := List.pairwise_iff_getElem.1 HR.out ((a + b) / 2) t hml ht (by omega)
            omega)
        clear hd hlk
        go_wp2_with fail
        refine HLL.out.mono ?_
        rintro en w2 ⟨rfl, rfl⟩
        go_wp2
        go_round
        case rel => exact ⟨a, (a + b) / 2, by omega, by omega, rfl, by go_num, HA, HJ2⟩
        case measure => simp [intOf]; omega
    · obtain rfl : b = a := by omega
      by_cases hend : b < l.length
      · obtain ⟨tb, ot, rfl, hab2, e0⟩ := HS.out.u8 hend
        have HI := hide_ (HIN.out b hend HA.out HBB.out)
        by_cases he : l[b].toNat = x.toNat
        · have hd : ((l[b].toNat : Int) == (x.toNat : Int)) = true := by rw [beq_iff_eq]; omega
          have HI2 := hide_ (show true = r by rw [← HI.out]; simp [he])
          clear he HI
          go_wp2
          refine bodyPost_ret (v := .tuple #[.int .i64 ((b : Nat) : Int), .bool true]) (by simp [results, Try.results70, go_sem]) rfl ?_
          exact ⟨b, by rw [HI2.out], rfl, by omega, HA.out, HBB.out⟩
        · have hd : ((l[b].toNat : Int) == (x.toNat : Int)) = false := by rw [beq_eq_false_iff_ne]; omega
          have HI2 := hide_ (show false = r by rw [← HI.out]; simp [he])
          clear he HI
          go_wp2_with fail
          refine (HN.out _ _).mono ?_
          rintro en w2 ⟨rfl, rfl⟩
          go_wp2
          refine bodyPost_ret (v := .tuple #[.int .i64 ((b : Nat) : Int), .bool false]) (by simp [results, Try.results70, go_sem]) rfl ?_
          exact ⟨b, by rw [HI2.out], rfl, by omega, HA.out, HBB.out⟩
      · obtain rfl : b = l.length := by omega
        have HI2 := hide_ (HOUT.out HA.out)
        go_wp2
        refine bodyPost_ret (v := .tuple #[.int .i64 ((l.length : Nat) : Int), .bool false]) (by simp [results, Try.results70, go_sem]) rfl ?_
        exact ⟨l.length, by rw [HI2.out], rfl, by omega, HA.out, HBB.out⟩
end Go.Proofs.Ytlcgihdphdkhpaa
