/-
  Texts of this claim put together: MayG, Wit6.
-/
import Derived.Test.YtkgnondlcaklnaaJ26
import Derived.Test.YtkgnondlcaklnaaJ11
import Derived.Test.YtkgnondlcaklnaaJ12
/-
  Which registers may be: plain mathematics, the code's way and the document's.
-/
namespace Go.Proofs.Ytkgnondlcaklnaa
open Go.RowKit

/-- what is wrong with a list's number -/
def risX (l : List Int) (lo hi : Int) (k : Nat) : Bool := match l[k]? with | some n => !(inB n lo hi) || (decide (0 < k) && decide (n ≤ l.getD (k - 1) 0)) | none => true
def risB (l : List Int) (lo hi : Int) : Bool := !(anyB (risX l lo hi) l.length)
def staB (st : Int) (va : List Int) : Bool := inB st 0 31 && decide (va.length ≤ 8)
def repB (r : RepP) : Bool := inB r.1 0 99 && staB r.2.2.1 r.2.2.2
def dnX (l : List DoneP) (k : Nat) : Bool := match l[k]? with | some d => decide (d.2.1 = 0) || !(repB d.2.2) | none => true
def dnsB (l : List DoneP) : Bool := risB (l.map (·.1)) 1 8 && !(anyB (dnX l) l.length)
def ouX (l : List CelM) (k : Nat) : Bool := match l[k]? with | some c => decide (16 ≤ c.2.1) || !(inB c.2.2.1 0 31) | none => true
def ousB (l : List CelM) (la : Int) : Bool := decide (l.length ≤ 8) && (risB (l.map (·.1)) 1 la && !(anyB (ouX l) l.length))
def mkX (l : List MrkM) (k : Nat) : Bool := match l[k]? with | some m => decide (m.2.1 = 0) || decide (m.2.2 = 0) | none => true
def mksB (l : List MrkM) : Bool := risB (l.map (·.1)) 0 15 && !(anyB (mkX l) l.length)
def stnB (r : RegP) : Bool := !(decide (r.inc = 0)) && (staB r.st r.va && (dnsB r.dn && (ousB r.ou r.la && mksB r.ma)))
def mayG (r : RegP) : Bool :=
  if r.ki = 0 then decide (r = zeroP) else if r.ki = 1 then stnB r else if r.ki = 2 then stnB r && (decide (r.st = 0) && (decide (r.va.length = 0) && decide (r.ou.length = 0))) else false

theorem risX_at {l : List Int} {lo hi : Int} {k : Nat} {n : Int} (h : l[k]? = some n) : risX l lo hi k = (!(inB n lo hi) || (decide (0 < k) && decide (n ≤ l.getD (k - 1) 0))) := by unfold risX; rw [h]
theorem risB_true {l : List Int} {lo hi : Int} : risB l lo hi = true ↔ ∀ j, j < l.length → risX l lo hi j = false := by
  unfold risB
  rw [Bool.not_eq_true', anyB_false]
theorem risB_all {l : List Int} {lo hi : Int} {n : Nat} (hn : l.length = n) (h : ∀ j, j < n → risX l lo hi j = false) : risB l lo hi = true := risB_true.2 (by rw [hn]; exact h)
theorem risB_no {l : List Int} {lo hi : Int} {n k : Nat} (hn : l.length = n) (hk : k < n) (h : risX l lo hi k = true) : risB l lo hi = false := by
  unfold risB
  rw [Bool.not_eq_false', anyB_true]
  exact ⟨k, by omega, h⟩
/-- rising numbers: each is as far from the least as its place -/
theorem ris_far {l : List Int} {lo hi : Int} (h : risB l lo hi = true) : ∀ (k : Nat) (n : Int), l[k]? = some n → (lo + k ≤ n ∧ n ≤ hi) := by
  intro k
  induction k with
  | zero =>
    intro n hn
    have h1 := risB_true.1 h 0 (List.getElem?_eq_some_iff.1 hn).1
    rw [risX_at hn] at h1
    simp only [Bool.or_eq_false_iff, Bool.not_eq_false'] at h1
    have := inB_true.1 h1.1
    omega
  | succ k ih =>
    intro n hn
    have hlt := (List.getElem?_eq_some_iff.1 hn).1
    have h1 := risB_true.1 h (k + 1) hlt
    have hk : l[k]? = some l[k] := List.getElem?_eq_getElem (by omega)
    have h2 := ih _ hk
    rw [risX_at hn] at h1
    simp only [Bool.or_eq_false_iff, Bool.not_eq_false', Bool.and_eq_false_iff, decide_eq_false_iff_not] at h1
    have h3 := inB_true.1 h1.1
    have h4 : l.getD (k + 1 - 1) 0 = l[k] := by rw [Nat.add_sub_cancel, List.getD_eq_getElem?_getD, hk]; rfl
    rw [h4] at h1
    rcases h1.2 with h5 | h5
    · omega
    · omega
theorem ris_len {l : List Int} {lo hi : Int} (h : risB l lo hi = true) (hh : lo ≤ hi + 1) : (l.length : Int) ≤ hi + 1 - lo := by
  rcases Nat.eq_zero_or_pos l.length with h0 | h0
  · omega
  · have h1 := ris_far h (l.length - 1) _ (List.getElem?_eq_getElem (by omega))
    omega

theorem dnX_at {l : List DoneP} {k : Nat} {d : DoneP} (h : l[k]? = some d) : dnX l k = (decide (d.2.1 = 0) || !(repB d.2.2)) := by unfold dnX; rw [h]
theorem ouX_at {l : List CelM} {k : Nat} {d : CelM} (h : l[k]? = some d) : ouX l k = (decide (16 ≤ d.2.1) || !(inB d.2.2.1 0 31)) := by unfold ouX; rw [h]
theorem mkX_at {l : List MrkM} {k : Nat} {d : MrkM} (h : l[k]? = some d) : mkX l k = (decide (d.2.1 = 0) || decide (d.2.2 = 0)) := by unfold mkX; rw [h]

/-- the document's way, entry by entry -/
def rdX (l : List DoneP) (k : Nat) : Bool := match l[k]? with
  | some d => decide (d.1 < 1) || (decide (8 < d.1) || (decide (d.2.1 = 0) || (!(repB d.2.2) || (decide (0 < k) && decide (d.1 ≤ (l.map (·.1)).getD (k - 1) 0))))) | none => true
def rcX (la : Int) (l : List CelM) (k : Nat) : Bool := match l[k]? with
  | some c => decide (c.1 < 1) || (decide (la < c.1) || (decide (15 < c.2.1) || (decide (c.2.2.1 < 0) || (decide (31 < c.2.2.1) || (decide (0 < k) && decide (c.1 ≤ (l.map (·.1)).getD (k - 1) 0)))))) | none => true
def rmX (l : List MrkM) (k : Nat) : Bool := match l[k]? with
  | some m => decide (15 < m.1) || (decide (m.2.1 = 0) || (decide (m.2.2 = 0) || (decide (0 < k) && decide (m.1 ≤ (l.map (·.1)).getD (k - 1) 0)))) | none => true
def listsB (r : RegP) : Bool :=
  (decide (r.va.length ≤ 8) && (decide (r.dn.length ≤ 8) && (decide (r.ou.length ≤ 8) && decide (r.ma.length ≤ 16)))) && (!(anyB (rdX r.dn) r.dn.length) && (!(anyB (rcX r.la r.ou) r.ou.length) && !(anyB (rmX r.ma) r.ma.length)))
def refMayG (r : RegP) : Bool :=
  if r.ki = 0 then decide (r.inc = 0) && (decide (r.st = 0) && (decide (r.la = 0) && (decide (r.va.length = 0) && (decide (r.dn.length = 0) && (decide (r.ou.length = 0) && decide (r.ma.length = 0))))))
  else if decide (2 < r.ki) || (decide (r.ki = 2) && (!(decide (r.st = 0)) || (decide (0 < r.va.length) || decide (0 < r.ou.length)))) then false
  else !(decide (r.inc = 0)) && (inB r.st 0 31 && listsB r)
theorem map_at {α : Type} {l : List α} {f : α → Int} {k : Nat} {x : α} (h : l[k]? = some x) : (l.map f)[k]? = some (f x) := by rw [List.getElem?_map, h]; rfl
theorem rd_split {l : List DoneP} {k : Nat} (hk : k < l.length) : rdX l k = (risX (l.map (·.1)) 1 8 k || dnX l k) := by
  have hx := List.getElem?_eq_getElem hk
  rw [risX_at (map_at hx), dnX_at hx]
  unfold rdX
  rw [hx]
  simp only
  generalize l[k] = d
  generalize (l.map (·.1)).getD (k - 1) 0 = p
  unfold inB
  by_cases h1 : d.1 < 1
  · have : ¬ 1 ≤ d.1 := by omega
    simp [h1, this]
  · by_cases h2 : 8 < d.1
    · have : ¬ d.1 ≤ 8 := by omega
      simp [h2, this]
    · have h3 : 1 ≤ d.1 := by omega
      have h4 : d.1 ≤ 8 := by omega
      simp only [h1, h2, h3, h4, decide_false, decide_true, Bool.false_or, Bool.and_self, Bool.not_true]
      cases decide (d.2.1 = 0) <;> cases repB d.2.2 <;> simp
theorem rc_split {l : List CelM} {la : Int} {k : Nat} (hk : k < l.length) : rcX la l k = (risX (l.map (·.1)) 1 la k || ouX l k) := by
  have hx := List.getElem?_eq_getElem hk
  rw [risX_at (map_at hx), ouX_at hx]
  unfold rcX
  rw [hx]
  simp only
  generalize l[k] = d
  generalize (l.map (·.1)).getD (k - 1) 0 = p
  unfold inB
  rw [show decide (d.1 < 1) = !(decide (1 ≤ d.1)) by rw [← decide_not]; congr 1; apply propext; omega, show decide (la < d.1) = !(decide (d.1 ≤ la)) by rw [← decide_not]; congr 1; apply propext; omega,
    show decide (15 < d.2.1) = decide (16 ≤ d.2.1) by congr 1, show decide (d.2.2.1 < 0) = !(decide (0 ≤ d.2.2.1)) by rw [← decide_not]; congr 1; apply propext; omega, show decide (31 < d.2.2.1) = !(decide (d.2.2.1 ≤ 31)) by rw [← decide_not]; congr 1; apply propext; omega]
  cases decide (1 ≤ d.1) <;> cases decide (d.1 ≤ la) <;> cases decide (16 ≤ d.2.1) <;> cases decide (0 ≤ d.2.2.1) <;> cases decide (d.2.2.1 ≤ 31) <;> simp
theorem rm_split {l : List MrkM} {k : Nat} (hk : k < l.length) (h0 : ∀ m ∈ l, 0 ≤ m.1) : rmX l k = (risX (l.map (·.1)) 0 15 k || mkX l k) := by
  have hx := List.getElem?_eq_getElem hk
  have hd := h0 _ (List.getElem_mem hk)
  rw [risX_at (map_at hx), mkX_at hx]
  unfold rmX
  rw [hx]
  simp only
  generalize l[k] = d at hd
  generalize (l.map (·.1)).getD (k - 1) 0 = p
  unfold inB
  rw [show decide (15 < d.1) = !(decide (d.1 ≤ 15)) by rw [← decide_not]; congr 1; apply propext; omega]
  simp only [hd, decide_true, Bool.true_and]
  cases decide (d.1 ≤ 15) <;> cases decide (d.2.1 = 0) <;> cases decide (d.2.2 = 0) <;> simp
theorem any_or {p q r : Nat → Bool} {n : Nat} (h : ∀ k, k < n → r k = (p k || q k)) : anyB r n = (anyB p n || anyB q n) := by
  rw [Bool.eq_iff_iff, Bool.or_eq_true, anyB_true, anyB_true, anyB_true]
  constructor
  · rintro ⟨j, hj, h1⟩
    rw [h j hj, Bool.or_eq_true] at h1
    rcases h1 with h1 | h1
    · exact .inl ⟨j, hj, h1⟩
    · exact .inr ⟨j, hj, h1⟩
  · rintro (⟨j, hj, h1⟩ | ⟨j, hj, h1⟩)
    · exact ⟨j, hj, by rw [h j hj, h1]; rfl⟩
    · exact ⟨j, hj, by rw [h j hj, h1]; simp⟩
theorem dnsB_len {l : List DoneP} (h : dnsB l = true) : l.length ≤ 8 := by
  unfold dnsB at h
  rw [Bool.and_eq_true] at h
  have := ris_len h.1 (by omega)
  rw [List.length_map] at this
  omega
theorem mksB_len {l : List MrkM} (h : mksB l = true) : l.length ≤ 16 := by
  unfold mksB at h
  rw [Bool.and_eq_true] at h
  have := ris_len h.1 (by omega)
  rw [List.length_map] at this
  omega
theorem dns_eq {l : List DoneP} : (!(anyB (rdX l) l.length)) = dnsB l := by
  rw [any_or fun k hk => rd_split hk, Bool.not_or]
  unfold dnsB risB
  rw [List.length_map]
theorem ous_eq {l : List CelM} {la : Int} : (!(anyB (rcX la l) l.length)) = (risB (l.map (·.1)) 1 la && !(anyB (ouX l) l.length)) := by
  rw [any_or fun k hk => rc_split hk, Bool.not_or]
  unfold risB
  rw [List.length_map]
theorem mks_eq {l : List MrkM} (h0 : ∀ m ∈ l, 0 ≤ m.1) : (!(anyB (rmX l) l.length)) = mksB l := by
  rw [any_or fun k hk => rm_split hk h0, Bool.not_or]
  unfold mksB risB
  rw [List.length_map]
theorem len_and {n m : Nat} {b : Bool} (h : b = true → n ≤ m) : (decide (n ≤ m) && b) = b := by
  cases b with
  | false => simp
  | true => simp [h rfl]
theorem lists_eq {r : RegP} (h0 : ∀ m ∈ r.ma, 0 ≤ m.1) : listsB r = (decide (r.va.length ≤ 8) && (dnsB r.dn && (ousB r.ou r.la && mksB r.ma))) := by
  unfold listsB
  rw [dns_eq, ous_eq, mks_eq h0]
  unfold ousB
  have h1 := len_and (n := r.dn.length) (m := 8) (b := dnsB r.dn) dnsB_len
  have h2 := len_and (n := r.ma.length) (m := 16) (b := mksB r.ma) mksB_len
  revert h1 h2
  generalize dnsB r.dn = a
  generalize mksB r.ma = b
  generalize (risB (r.ou.map (·.1)) 1 r.la && !(anyB (ouX r.ou) r.ou.length)) = c
  generalize decide (r.va.length ≤ 8) = d
  generalize decide (r.dn.length ≤ 8) = e
  generalize decide (r.ou.length ≤ 8) = f
  generalize decide (r.ma.length ≤ 16) = g
  cases a <;> cases b <;> cases c <;> cases d <;> cases e <;> cases f <;> cases g <;> simp
theorem refMay_eq {r : RegP} (h0 : ∀ m ∈ r.ma, 0 ≤ m.1) (hk : 0 ≤ r.ki) : refMayG r = mayG r := by
  unfold refMayG mayG
  by_cases k0 : r.ki = 0
  · rw [if_pos k0, if_pos k0]
    obtain ⟨ki, inc, st, va, dn, ou, la, ma⟩ := r
    simp only at k0
    subst k0
    rw [Bool.eq_iff_iff]
    simp only [Bool.and_eq_true, decide_eq_true_eq, zeroP, RegP.mk.injEq, List.length_eq_zero_iff, true_and]
    constructor
    · rintro ⟨rfl, rfl, rfl, rfl, rfl, rfl, rfl⟩
      exact ⟨rfl, rfl, rfl, rfl, rfl, rfl, rfl⟩
    · rintro ⟨rfl, rfl, rfl, rfl, rfl, rfl, rfl⟩
      exact ⟨rfl, rfl, rfl, rfl, rfl, rfl, rfl⟩
  · rw [if_neg k0, if_neg k0]
    have hst : (!(decide (r.inc = 0)) && (inB r.st 0 31 && listsB r)) = stnB r := by
      unfold stnB staB
      rw [lists_eq h0]
      cases inB r.st 0 31 <;> simp
    by_cases k1 : r.ki = 1
    · rw [if_pos k1, if_neg (by rw [k1]; simp), hst]
    · rw [if_neg k1]
      by_cases k2 : r.ki = 2
      · rw [if_pos k2, k2, hst]
        have e1 : decide (0 < r.va.length) = !(decide (r.va.length = 0)) := by rw [← decide_not]; congr 1; apply propext; omega
        have e2 : decide (0 < r.ou.length) = !(decide (r.ou.length = 0)) := by rw [← decide_not]; congr 1; apply propext; omega
        rw [e1, e2]
        cases decide (r.st = 0) <;> cases decide (r.va.length = 0) <;> cases decide (r.ou.length = 0) <;> simp
      · rw [if_neg k2, if_pos]
        simp
        omega
end Go.Proofs.Ytkgnondlcaklnaa

/-
  Contracts of reg's within.
-/
namespace Go.Proofs.Ytkgnondlcaklnaa
open Go.RowKit

theorem withinInt_any (n a b : Int) (w : World) : Calls Try.prog 83 #[.int .i64 n, .int .i64 a, .int .i64 b] w fun e w' => e = .returned (.bool (inB n a b)) ∧ w = w' := by
  by_cases h : a ≤ n
  · by_cases h2 : n ≤ b
    · have HR := hide_ (inB_true.2 ⟨h, h2⟩)
      have hd := decide_eq_true h
      have hd2 := decide_eq_true h2
      go_enter Try.func83, Try.ntmps83
      go_wp2
      go_ret
      exact ⟨ret_boolT HR.out.symm, rfl⟩
    · have HR := hide_ (inB_false.2 (.inr (by omega)) : inB n a b = false)
      have hd := decide_eq_true h
      have hd2 := decide_eq_false h2
      go_enter Try.func83, Try.ntmps83
      go_wp2
      go_ret
      exact ⟨ret_boolT HR.out.symm, rfl⟩
  · have HR := hide_ (inB_false.2 (.inl (by omega)) : inB n a b = false)
    have hd := decide_eq_false h
    go_enter Try.func83, Try.ntmps83
    go_wp2
    go_ret
    exact ⟨ret_boolT HR.out.symm, rfl⟩

theorem within64_any (n a b : Int) (w : World) : Calls Try.prog 103 #[.int .u64 n, .int .u64 a, .int .u64 b] w fun e w' => e = .returned (.bool (inB n a b)) ∧ w = w' := by
  by_cases h : a ≤ n
  · by_cases h2 : n ≤ b
    · have HR := hide_ (inB_true.2 ⟨h, h2⟩)
      have hd := decide_eq_true h
      have hd2 := decide_eq_true h2
      go_enter Try.func103, Try.ntmps103
      go_wp2
      go_ret
      exact ⟨ret_boolT HR.out.symm, rfl⟩
    · have HR := hide_ (inB_false.2 (.inr (by omega)) : inB n a b = false)
      have hd := decide_eq_true h
      have hd2 := decide_eq_false h2
      go_enter Try.func103, Try.ntmps103
      go_wp2
      go_ret
      exact ⟨ret_boolT HR.out.symm, rfl⟩
  · have HR := hide_ (inB_false.2 (.inl (by omega)) : inB n a b = false)
    have hd := decide_eq_false h
    go_enter Try.func103, Try.ntmps103
    go_wp2
    go_ret
    exact ⟨ret_boolT HR.out.symm, rfl⟩

theorem withinErr_any (n a b : Int) (w : World) : Calls Try.prog 102 #[.int .i64 n, .int .i64 a, .int .i64 b] w fun e w' => e = .returned (.bool (inB n a b)) ∧ w = w' := by
  by_cases h : a ≤ n
  · by_cases h2 : n ≤ b
    · have HR := hide_ (inB_true.2 ⟨h, h2⟩)
      have hd := decide_eq_true h
      have hd2 := decide_eq_true h2
      go_enter Try.func102, Try.ntmps102
      go_wp2
      go_ret
      exact ⟨ret_boolT HR.out.symm, rfl⟩
    · have HR := hide_ (inB_false.2 (.inr (by omega)) : inB n a b = false)
      have hd := decide_eq_true h
      have hd2 := decide_eq_false h2
      go_enter Try.func102, Try.ntmps102
      go_wp2
      go_ret
      exact ⟨ret_boolT HR.out.symm, rfl⟩
  · have HR := hide_ (inB_false.2 (.inl (by omega)) : inB n a b = false)
    have hd := decide_eq_false h
    go_enter Try.func102, Try.ntmps102
    go_wp2
    go_ret
    exact ⟨ret_boolT HR.out.symm, rfl⟩

end Go.Proofs.Ytkgnondlcaklnaa
