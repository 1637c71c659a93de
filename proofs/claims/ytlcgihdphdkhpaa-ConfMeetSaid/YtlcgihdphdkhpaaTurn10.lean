/-
  Contracts of conf's turned and step.
-/
import Derived.Test.YtlcgihdphdkhpaaConf4
import Derived.Test.YtlcgihdphdkhpaaLib8
import Derived.Test.YtlcgihdphdkhpaaSrch8
namespace Go.Proofs.Ytlcgihdphdkhpaa
open Go.RowKit

theorem turn_at {l : List UInt8} {x : UInt8} {i : Nat} (h : l.Pairwise fun a b => a.toNat < b.toNat) (hx : x ∈ l) (h1 : ∀ t (ht : t < l.length), t < i → l[t].toNat < x.toNat) (h2 : ∀ t (ht : t < l.length), i ≤ t → x.toNat ≤ l[t].toNat) : ∃ hi : i < l.length, l[i] = x := by
  obtain ⟨s, hs, e⟩ := List.getElem_of_mem hx
  rcases Nat.lt_trichotomy s i with h3 | rfl | h3
  · have := h1 s hs h3
    rw [e] at this
    omega
  · exact ⟨hs, e⟩
  · have h4 := List.pairwise_iff_getElem.1 h i s (by omega) hs h3
    have h5 := h2 i (by omega) (Nat.le_refl _)
    rw [e] at h4
    omega
theorem turn_del {l : List UInt8} {x : UInt8} {i : Nat} (h : l.Pairwise fun a b => a.toNat < b.toNat) (hx : x ∈ l) (h1 : ∀ t (ht : t < l.length), t < i → l[t].toNat < x.toNat) (h2 : ∀ t (ht : t < l.length), i ≤ t → x.toNat ≤ l[t].toNat) : l.take i ++ l.drop (i + 1) = turnN l x := by
  obtain ⟨hi, hix⟩ := turn_at h hx h1 h2
  rw [turnN, if_pos (by rw [List.contains_iff_mem]; exact hx)]
  have e : l = l.take i ++ x :: l.drop (i + 1) := by
    rw [← hix, ← List.drop_eq_getElem_cons hi, List.take_append_drop]
  conv => rhs; rw [e]
  rw [List.filter_append, List.filter_cons_of_neg (by simp)]
  congr 1
  · symm
    refine List.filter_eq_self.2 fun y hy => ?_
    obtain ⟨t, ht, rfl⟩ := List.getElem_of_mem hy
    rw [List.length_take] at ht
    rw [List.getElem_take, bne_iff_ne]
    have := h1 t (by omega) (by omega)
    rintro rfl
    omega
  · symm
    refine List.filter_eq_self.2 fun y hy => ?_
    obtain ⟨t, ht, rfl⟩ := List.getElem_of_mem hy
    rw [List.length_drop] at ht
    rw [List.getElem_drop, bne_iff_ne]
    have := List.pairwise_iff_getElem.1 h i (i + 1 + t) hi (by omega) (by omega)
    rw [hix] at this
    intro e2
    rw [e2] at this
    omega
theorem turn_ins {l : List UInt8} {x : UInt8} {i : Nat} (h : l.Pairwise fun a b => a.toNat < b.toNat) (hx : x ∉ l) (hi : i ≤ l.length) (h1 : ∀ t (ht : t < l.length), t < i → l[t].toNat < x.toNat) (h2 : ∀ t (ht : t < l.length), i ≤ t → x.toNat ≤ l[t].toNat) : l.take i ++ x :: l.drop i = turnN l x := by
  obtain ⟨e1, e2⟩ := low_at h hi h1 h2
  rw [turnN, if_neg (by rw [List.contains_iff_mem]; exact hx), e1, e2]
  congr 2
  refine List.filter_congr fun y hy => ?_
  have : y ≠ x := fun e => hx (e ▸ hy)
  have : y.toNat ≠ x.toNat := fun e => this (UInt8.toNat_inj.1 e)
  rw [Bool.eq_iff_iff, decide_eq_true_eq, decide_eq_true_eq]
  omega

set_option maxRecDepth 100000 in
set_option maxHeartbeats 800000 in
theorem turned_any (l : List UInt8) (x : UInt8) (B : Nat) (A : Option Addr) (n c : Nat) (w : World) (hn : l.length = n) (hm : n ≤ 100) (hs : Sees w B A (bv l)) (hB : B ≤ w.heap.size) (hr : l.Pairwise fun a b => a.toNat < b.toNat) :
    Calls Try.prog 47 #[.slice A n c, .int .u8 (x.toNat : Int)] w fun e w' => ∃ A' c', e = .returned (.slice A' (turnN l x).length c') ∧
      w'.ownsRow w.heap.size 5 1 (.slice A' (turnN l x).length c') (turnN l x).length (bv (turnN l x)) ∧ Below w.heap.size w w' := by
  have HCL := hide_ (clone8_any l B A n c w hn (by omega) hs hB)
  have HN := hide_ hn
  have HDEL := hide_ (fun i hx h1 h2 => turn_del (l := l) (x := x) (i := i) hr hx h1 h2)
  have HAT := hide_ (fun i hx h1 h2 => turn_at (l := l) (x := x) (i := i) hr hx h1 h2)
  have HINS := hide_ (fun i hx hi h1 h2 => turn_ins (l := l) (x := x) (i := i) hr hx hi h1 h2)
  have HSR := hide_ (fun (u : World) (A : Option Addr) (k : Nat) (hs : Sees u u.heap.size A (bv l)) => srch8_any l x u.heap.size A n k u hn hm hs hr)
  obtain ⟨t, ht⟩ : ∃ t, turnN l x = t := ⟨_, rfl⟩
  simp only [ht] at HDEL HINS ⊢
  clear hs hr ht hn
  go_enter Try.func47, Try.ntmps47
  go_wp2_with fail
  refine HCL.out.mono ?_
  rintro e w1 ⟨A1, c1, rfl, ho1, hb1⟩
  have HO1 := hide_ ho1
  have HB1 := hide_ hb1
  have HSS := hide_ (HSR.out w1 A1 c1 (Sees.ownRow9 ho1))
  clear ho1 hb1 HSR
  cases hin : l.contains x with
  | true =>
    have hx : x ∈ l := List.contains_iff_mem.1 hin
    unfold BsOut8 at HSS
    rw [hin] at HSS
    go_wp2_with fail
    refine HSS.out.mono ?_
    rintro e w2 ⟨i, rfl, rfl, hi, h1, h2⟩
    obtain ⟨hil, hix⟩ := HAT.out i hx h1 h2
    have hil' : i < n := by have := HN.out; omega
    obtain ⟨g, rfl, hg⟩ := own_some8 HO1.out (by omega)
    have HD := hide_ (del8_any l g n c1 i w.heap.size w1 HO1.out hm hil')
    rw [HDEL.out i hx h1 h2] at HD
    have hlen : n - 1 = t.length := by
      have e1 := HDEL.out i hx h1 h2
      rw [← e1, List.length_append, List.length_take, List.length_drop]
      have := HN.out
      omega
    rw [hlen] at HD
    clear h1 h2 hix hil hin hx hi hlen
    go_wp2_with fail
    refine HD.out.mono ?_
    rintro e w3 ⟨rfl, ho3, hg3⟩
    go_wp2
    go_ret
    exact ⟨_, _, rfl, ho3, HB1.out.grown hg3 HB1.out.size (fun k hk => by injection hk with hk; omega)⟩
  | false =>
    have hx : x ∉ l := fun h => by rw [List.contains_iff_mem.2 h] at hin; cases hin
    unfold BsOut8 at HSS
    rw [hin] at HSS
    go_wp2_with fail
    refine HSS.out.mono ?_
    rintro e w2 ⟨i, rfl, rfl, hi, h1, h2⟩
    have hil : i ≤ n := by have := HN.out; omega
    have HD := hide_ (ins8_any A1 n c1 1 i w1.heap.size l x w.heap.size (w1.alloc (.cells #[.int .u8 (x.toNat : Int)] 5)) 5 (HO1.out.alloc _) HN.out hm (by have := HB1.out.size; simp; omega) hil (BoxAt.new w1 _ _) (fun e => by have := (HO1.out.lt _ e).2; omega))
    rw [HINS.out i hx hi h1 h2] at HD
    have hlen : n + 1 = t.length := by
      have e1 := HINS.out i hx hi h1 h2
      rw [← e1, List.length_append, List.length_take, List.length_cons, List.length_drop]
      have := HN.out
      omega
    rw [hlen] at HD
    have HB2 := hide_ (HB1.out.alloc HB1.out.size (.cells #[.int .u8 (x.toNat : Int)] 5))
    clear h1 h2 hin hx hi hlen
    go_wp2_with fail
    refine HD.out.mono ?_
    rintro e w3 ⟨A3, c3, rfl, ho3, hg3⟩
    go_wp2
    go_ret
    exact ⟨_, _, rfl, ho3, HB2.out.grown hg3 HB2.out.size (fun k hk => (HO1.out.lt k hk).1)⟩
end Go.Proofs.Ytlcgihdphdkhpaa
