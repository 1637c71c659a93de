/-
  Texts of this claim put together: Base, Put, Flat, Rows2.
-/
import Derived.Test.YtkgnondlcaklnaaGreatRows
import Derived.Test.YtkgnondlcaklnaaGreatMem
import Derived.WalkKit
import Derived.Laws.CopyOwn
/-
  Plain lemmas of this claim's own on bytes in memory that know the type uint8: what a function leaves that makes bytes, a block that begins with bytes.
-/
namespace Go.Proofs.YtkgnondlcaklnaaGreat
open Go.RowKit

theorem u8_info : (Tryz.prog.info? 5).map (fun i => (i.zero, i.size, i.bytes)) = some (some (.int .u8 0), 1, 1) := by kernel_rfl
theorem u8_one : (Tryz.prog.info? 5).map (·.size) = some 1 := by kernel_rfl

/-- what a function leaves that makes bytes -/
def Puts (w : World) (l : List UInt8) (e : Ending) (w' : World) : Prop :=
  ∃ A c, e = .returned (.slice A l.length c) ∧ w'.ownsRow w.heap.size 5 1 (.slice A l.length c) l.length (bv l) ∧ Below w.heap.size w w'

theorem own_slice {w : World} {base : Nat} {e : TypeId} {v : Value} {n : Nat} {xs : List Value} (h : w.ownsRow base e 1 v n xs) : ∃ A c, v = .slice A n c := by
  rcases h.2 with ⟨rfl, rfl⟩ | ⟨g, cap, cur, rfl, _⟩
  · exact ⟨_, _, rfl⟩
  · exact ⟨_, _, rfl⟩
theorem own_rw {w : World} {base n m : Nat} {e : TypeId} {v : Value} {xs ys : List Value} (h : w.ownsRow base e 1 v n xs) (hn : n = m) (hx : xs = ys) : w.ownsRow base e 1 v m ys := by
  subst hn hx
  exact h

theorem byte_of {n : Nat} (h : n < 256) : ((UInt8.ofNat n).toNat : Int) = (n : Int) := by
  have : (UInt8.ofNat n).toNat = n := by simp; omega
  rw [this]

theorem Below.of_drew {w w' : World} (h : Below w.drew.heap.size w.drew w') : Below w.heap.size w w' := (Below.refl w.heap.size w).drew.trans h

/-- a block that begins with these bytes -/
def RowIs (w : World) (g : Nat) (l : List UInt8) : Prop := ∃ cur : Array Value, w.heap[g]? = some (.cells cur 5 (0, 0)) ∧ cur.toList.take l.length = bv l
theorem RowIs.get {w : World} {g : Nat} {l : List UInt8} (h : RowIs w g l) {j : Nat} (hj : j < l.length) : w.cell? ⟨g, j, none⟩ = some (.int .u8 ((l.getD j 0).toNat : Int)) ∧ w.frozen? ⟨g, j, none⟩ = false := by
  obtain ⟨cur, hg, hc⟩ := h
  refine ⟨?_, by simp [World.frozen?, hg]⟩
  rw [cell_of_row w g j _ _ _ hg]
  have e := congrArg (fun x => x[j]?) hc
  simp only [List.getElem?_take, if_pos hj, bv_getElem?] at e
  rw [← Array.getElem?_toList, e, List.getD_eq_getElem?_getD, List.getElem?_eq_getElem hj]
  rfl
theorem RowIs.set_ {w : World} {g : Nat} {l : List UInt8} (h : RowIs w g l) {j : Nat} (b : UInt8) : RowIs (w.setCell ⟨g, j, none⟩ (.int .u8 (b.toNat : Int))) g (l.set j b) := by
  obtain ⟨cur, hg, hc⟩ := h
  refine ⟨_, heap_set j _ hg, ?_⟩
  rw [Array.toList_setIfInBounds, List.length_set, List.take_set, hc]
  simp [bv, List.map_set]
theorem RowIs.sees {w : World} {g : Nat} {l : List UInt8} (h : RowIs w g l) : Sees w w.heap.size (some ⟨g, 0, none⟩) (bv l) := fun hn => by
  have hg : g < w.heap.size := by
    obtain ⟨cur, hg, _⟩ := h
    exact (Array.getElem?_eq_some_iff.1 hg).1
  refine ⟨_, rfl, hg, fun j u hu => ?_⟩
  have hj : j < l.length := by
    have := (List.getElem?_eq_some_iff.1 hu).1
    rwa [bv_length] at this
  have hadd : (⟨g, 0, none⟩ : Addr).add j = ⟨g, j, none⟩ := by unfold Addr.add; split <;> simp_all
  rw [hadd, (h.get hj).1, ← hu, bv_getElem?, List.getD_eq_getElem?_getD, List.getElem?_eq_getElem hj]
  rfl
theorem own_row {w : World} {base n c : Nat} {A : Option Addr} {l : List UInt8} (h : w.ownsRow base 5 1 (.slice A n c) n (bv l)) (hn : l.length = n) (h0 : 0 < n) : ∃ g, A = some ⟨g, 0, none⟩ ∧ base ≤ g ∧ n ≤ c ∧ RowIs w g l := by
  rcases h.2 with ⟨_, h0'⟩ | ⟨g, cap, cur, hv, hb, hg, hc, _, _, hx⟩
  · omega
  · injection hv with hA _ hcap
    subst hA hcap
    exact ⟨g, rfl, hb, hc, cur, hg, by rw [hn]; rwa [Nat.mul_one] at hx⟩

/-- old cells and old marks stay -/
theorem bcell {W w1 : World} (hb : Below W.heap.size W w1) : (∀ b o, b < W.heap.size → w1.cell? ⟨b, o, none⟩ = W.cell? ⟨b, o, none⟩) ∧ (∀ b o, b < W.heap.size → w1.frozen? ⟨b, o, none⟩ = W.frozen? ⟨b, o, none⟩) :=
  ⟨fun b o h => hb.cell (p := ⟨b, o, none⟩) h, fun b o h => hb.frozen (p := ⟨b, o, none⟩) h⟩

end Go.Proofs.YtkgnondlcaklnaaGreat

/-
  Contracts of pack's putting functions: what is put stands behind a copy of what was there, in new memory.
-/
namespace Go.Proofs.YtkgnondlcaklnaaGreat
open Go.RowKit

theorem copyOf_any (l : List UInt8) (B : Nat) (A : Option Addr) (c room : Nat) (w : World) (hs : Sees w B A (bv l)) (hB : B ≤ w.heap.size) (hr : l.length + room ≤ 281474976710656) :
    Calls Tryz.prog 75 #[.slice A l.length c, .int .i64 room] w fun e w' => e = .returned (.slice (some ⟨w.heap.size, 0, none⟩) l.length (l.length + room)) ∧
      w'.ownsRow w.heap.size 5 1 (.slice (some ⟨w.heap.size, 0, none⟩) l.length (l.length + room)) l.length (bv l) ∧ Below w.heap.size w w' ∧ w'.heap.size = w.heap.size + 1 := by
  obtain ⟨i0, hi, hz0, hz1, hz2⟩ := info_parts u8_info
  have hmk : ∀ u : World, (Instr.makeSlice 52 (.int .i64 (l.length : Int)) (.int .i64 ((l.length : Int) + (room : Int)))).run Tryz.prog u =
      .ok (.slice (some ⟨u.heap.size, 0, none⟩) l.length (l.length + room)) (u.alloc (.cells (madeCells #[.int .u8 0] (l.length + room)) 5)) := fun u => by
    have h := run_make (P := Tryz.prog) u 52 5 i0 (.int .u8 0) Tryz.underlying52 hi hz0 .i64 .i64 (l.length : Int) ((l.length : Int) + (room : Int)) (by omega) (by omega) (by rw [hz2]; omega) (by omega)
    have e1 : (l.length : Int).toNat = l.length := by omega
    have e2 : ((l.length : Int) + (room : Int)).toNat = l.length + room := by omega
    rw [e1, e2] at h
    simpa [hz1, Value.cells] using h
  have hcs : (madeCells #[Value.int .u8 0] (l.length + room)).size = l.length + room := size_madeCells _ _
  obtain ⟨w1, hcp, hrow, hgr, hsz1⟩ := run_copy_start (P := Tryz.prog) (w.alloc (.cells (madeCells #[.int .u8 0] (l.length + room)) 5)) 52 52 3 5 Tryz.underlying52 u8_one w.heap.size l.length (l.length + room) B A l.length c
    (madeCells #[.int .u8 0] (l.length + room)) 5 (heap_alloc_new w _) (bv l) (bv_length l) (Nat.le_refl _) (by omega) (bv_oneCell l) (hs.below ((Below.refl _ _).alloc hB _))
  have H1 := hide_ hrow
  clear hrow hcs
  go_enter Tryz.func75, Tryz.ntmps75
  go_wp2
  go_ret
  have hb : Below w.heap.size w w1 := ((Below.refl _ _).alloc (Nat.le_refl _) _).grown hgr (by simp) (by intro k hk; injection hk; omega)
  refine ⟨rfl, ⟨by simp [bv_length], .inr ⟨w.heap.size, _, _, rfl, Nat.le_refl _, H1.out, by omega, by unfold maxLen; omega, ?_, ?_⟩⟩, hb, ?_⟩
  · simp [bv_length, madeCells]
  · rw [Nat.mul_one, ← bv_length l]
    exact List.take_left
  · simpa using hsz1

/-- a number's bytes -/
def numB (n : Nat) : List UInt8 := if n < 128 then [UInt8.ofNat n] else UInt8.ofNat (n % 128 + 128) :: numB (n / 128)
termination_by n
decreasing_by omega
theorem numB_small {n : Nat} (h : n < 128) : numB n = [UInt8.ofNat n] := by
  rw [numB, if_pos h]
theorem numB_big {n : Nat} (h : 128 ≤ n) : numB n = UInt8.ofNat (n % 128 + 128) :: numB (n / 128) := by
  rw [numB, if_neg (by omega)]
theorem numB_length_pow (k : Nat) : ∀ n : Nat, n < 128 ^ (k + 1) → (numB n).length ≤ k + 1 := by
  induction k with
  | zero => intro n h; rw [numB_small (by omega)]; simp
  | succ k ih =>
    intro n h
    by_cases hs : n < 128
    · rw [numB_small hs]; simp
    · rw [numB_big (by omega), List.length_cons]
      have := ih (n / 128) (by rw [Nat.pow_succ] at h; omega)
      omega
theorem numB_length (n : Nat) (h : n < 18446744073709551616) : (numB n).length ≤ 10 := numB_length_pow 9 n (by omega)
theorem numB_pos (n : Nat) : 0 < (numB n).length := by
  by_cases hs : n < 128
  · rw [numB_small hs]; simp
  · rw [numB_big (by omega)]; simp

set_option maxRecDepth 100000 in
set_option maxHeartbeats 400000 in
theorem addNum_any (l : List UInt8) (x base : Nat) (v : Value) (w : World) (hx : x < 18446744073709551616) (hl : l.length ≤ 70368744177664) (hown : w.ownsRow base 5 1 v l.length (bv l)) (hbase : base ≤ w.heap.size) :
    Calls Tryz.prog 74 #[v, .int .u64 x] w fun e w' => ∃ v', e = .returned v' ∧ w'.ownsRow base 5 1 v' (l ++ numB x).length (bv (l ++ numB x)) ∧ Below base w w' := by
  obtain ⟨i0, hi, hz0, hz1, hz2⟩ := info_parts u8_info
  have hnl := numB_length x hx
  go_enter Tryz.func74, Tryz.ntmps74
  go_wp2
  go_loopw [0, 1] (fun b n wr => ∃ (y : Nat) (pre : List UInt8), y < 18446744073709551616 ∧ n = .int .u64 y ∧ wr.ownsRow base 5 1 b pre.length (bv pre) ∧ Hid (pre ++ numB y = l ++ numB x) ∧ Below base w wr) (fun _ n _ => (intOf n).toNat)
  case atStart => exact ⟨x, l, hx, rfl, hown, rfl, Below.refl _ _⟩
  case round =>
    obtain ⟨y, pre, hy, rfl, hpre, HE, hbel⟩ := hrel
    have hlen : pre.length ≤ 70368744177700 := by
      have := congrArg List.length HE.out
      simp at this
      omega
    by_cases hlt : 128 ≤ y
    · go_wp2_with (at_builtin; refine wpList_append_byte (P := Tryz.prog) _ rfl (.tmp 7) (.tmp 12) 52 rfl base 5 u8_info Tryz.underlying52 _ pre.length (bv pre) _ rfl hpre rfl hlen (Nat.le_trans hbase hbel.size) ?_; intro v1 w1 hown1 hbel1)
      have e1 : bv (pre ++ [UInt8.ofNat (y % 128 + 128)]) = bv pre ++ [.int .u8 ((y : Int) % 128 + 128)] := by
        rw [bv_append, bv_one, byte_of (by omega)]
        simp
      go_roundw
      case rel =>
        refine ⟨y / 128, pre ++ [UInt8.ofNat (y % 128 + 128)], by omega, by go_num, ?_, ?_, hbel.trans hbel1⟩
        · rw [e1, List.length_append]
          exact hown1
        · show _ = _
          rw [← HE.out, numB_big hlt]
          simp
      case measure => simp [intOf]; omega
    · have e1 : bv (pre ++ numB y) = bv pre ++ [.int .u8 (y : Int)] := by
        rw [numB_small (by omega), bv_append, bv_one, byte_of (by omega)]
      have e2 : (pre ++ numB y).length = pre.length + 1 := by rw [numB_small (by omega)]; simp
      have H1 := hide_ e1
      have H2 := hide_ e2
      clear e1 e2
      go_wp2_with (at_builtin; refine wpList_append_byte (P := Tryz.prog) _ rfl (.tmp 16) (.tmp 19) 52 rfl base 5 u8_info Tryz.underlying52 _ pre.length (bv pre) _ rfl hpre rfl hlen (Nat.le_trans hbase hbel.size) ?_; intro v1 w1 hown1 hbel1)
      go_ret
      refine ⟨v1, rfl, ?_, hbel.trans hbel1⟩
      rw [← HE.out, H1.out, H2.out]
      exact hown1

theorem PutNum_any (l r : List UInt8) (x B : Nat) (A : Option Addr) (n c : Nat) (w : World) (hn : l.length = n) (hres : l ++ numB x = r) (hx : x < 18446744073709551616) (hs : Sees w B A (bv l)) (hB : B ≤ w.heap.size) (hl : l.length ≤ 70368744177664) :
    Calls Tryz.prog 35 #[.slice A n c, .int .u64 x] w (Puts w r) := by
  subst hn hres
  have HX := hide_ hx
  clear hx
  go_enter Tryz.func35, Tryz.ntmps35
  go_wp2_with fail
  refine (copyOf_any l B A c 10 w hs hB (by omega)).mono ?_
  rintro e w1 ⟨rfl, hown1, hb1, hz1⟩
  have HZ := hide_ hz1
  clear hz1
  go_wp2_with fail
  refine (addNum_any l x w.heap.size _ w1 HX.out hl hown1 hb1.size).mono ?_
  rintro e w2 ⟨v2, rfl, hown2, hb2⟩
  go_wp2
  go_ret
  obtain ⟨A', c', rfl⟩ := own_slice hown2
  exact ⟨A', c', rfl, hown2, hb1.trans hb2⟩

/-- the number that stands for a whole one -/
def foldN (n : Int) : Nat := if n < 0 then 2 * (-1 - n).toNat + 1 else 2 * n.toNat
theorem foldN_lt (n : Int) (h1 : -9223372036854775808 ≤ n) (h2 : n ≤ 9223372036854775807) : foldN n < 18446744073709551616 := by
  unfold foldN
  split <;> omega

set_option maxRecDepth 100000 in
theorem fold_any (n : Int) (w : World) (h1 : -9223372036854775808 ≤ n) (h2 : n ≤ 9223372036854775807) :
    Calls Tryz.prog 155 #[.int .i64 n] w fun e w' => e = .returned (.int .u64 (foldN n)) ∧ w = w' := by
  have e : ∀ a b : Int, a = b → Ending.returned (.int .u64 a) = .returned (.int .u64 b) := fun a b h => by rw [h]
  by_cases h : n < 0
  · go_enter Tryz.func155, Tryz.ntmps155
    go_wp2
    go_ret
    exact ⟨e _ _ (by unfold foldN; rw [if_pos h]; omega), rfl⟩
  · go_enter Tryz.func155, Tryz.ntmps155
    go_wp2
    go_ret
    exact ⟨e _ _ (by unfold foldN; rw [if_neg (by omega)]; omega), rfl⟩

/-- a whole number's bytes -/
def intB (n : Int) : List UInt8 := numB (foldN n)

theorem PutInt_any (l r : List UInt8) (n : Int) (B : Nat) (A : Option Addr) (k c : Nat) (w : World) (hk : l.length = k) (hres : l ++ intB n = r) (h1 : -9223372036854775808 ≤ n) (h2 : n ≤ 9223372036854775807) (hs : Sees w B A (bv l)) (hB : B ≤ w.heap.size) (hl : l.length ≤ 70368744177664) :
    Calls Tryz.prog 116 #[.slice A k c, .int .i64 n] w (Puts w r) := by
  subst hk hres
  have H1 := hide_ h1
  have H2 := hide_ h2
  clear h1 h2
  go_enter Tryz.func116, Tryz.ntmps116
  go_wp2_with fail
  refine (fold_any n w H1.out H2.out).mono ?_
  rintro e w1 ⟨rfl, rfl⟩
  go_wp2_with fail
  refine (PutNum_any l _ (foldN n) B A _ c w rfl rfl (foldN_lt n H1.out H2.out) hs hB hl).mono ?_
  rintro e w1 ⟨A', c', rfl, hown, hb⟩
  go_wp2
  go_ret
  exact ⟨A', c', by simp [intB], hown, hb⟩

/-- a row's bytes -/
def rowB (row : List UInt8) : List UInt8 := numB row.length ++ row

end Go.Proofs.YtkgnondlcaklnaaGreat

/-
  What a slice sees, at a literal address.
-/
namespace Go.Proofs.YtkgnondlcaklnaaGreat
open Go.RowKit

section
variable {w : World} {B : Nat} {A : Option Addr}
theorem Sees.flat {xs : List Value} (h : Sees w B A xs) (h0 : 0 < xs.length) : ∃ b o, A = some ⟨b, o, none⟩ ∧ b < B ∧ ∀ j u, xs[j]? = some u → w.cell? ⟨b, o + j, none⟩ = some u := by
  obtain ⟨⟨b, o, s⟩, e, hb, hc⟩ := h h0
  have hs : s = none := by simpa [Addr.add] using World.cell?_spot (hc 0 _ (List.getElem?_eq_getElem h0))
  subst hs
  refine ⟨b, o, e, hb, fun j u hu => ?_⟩
  have := hc j u hu
  rwa [Addr.add_lit] at this
end

/-- a block of another kind -/
def BoxAt (w : World) (g : Nat) (cs : Array Value) (t : TypeId) : Prop := w.heap[g]? = some (.cells cs t (0, 0))
theorem BoxAt.lt {w : World} {g : Nat} {cs : Array Value} {t : TypeId} (h : BoxAt w g cs t) : g < w.heap.size := (Array.getElem?_eq_some_iff.1 h).1
theorem BoxAt.cell {w : World} {g : Nat} {cs : Array Value} {t : TypeId} (h : BoxAt w g cs t) (i : Nat) : w.cell? ⟨g, i, none⟩ = cs[i]? := cell_of_row w g i _ _ _ h
theorem BoxAt.below {w w' : World} {g : Nat} {cs : Array Value} {t : TypeId} (h : BoxAt w g cs t) (hb : Below w.heap.size w w') : BoxAt w' g cs t := (hb.block g h.lt).trans h
theorem BoxAt.alloc {w : World} {g : Nat} {cs : Array Value} {t : TypeId} (h : BoxAt w g cs t) (o : Obj) : BoxAt (w.alloc o) g cs t := h.below ((Below.refl _ _).alloc (Nat.le_refl _) o)
theorem BoxAt.new (w : World) (cs : Array Value) (t : TypeId) : BoxAt (w.alloc (.cells cs t)) w.heap.size cs t := heap_alloc_new w _
theorem BoxAt.free9 {w : World} {g : Nat} {cs : Array Value} {t : TypeId} (h : BoxAt w g cs t) (i : Nat) : w.frozen? ⟨g, i, none⟩ = false := by
  unfold BoxAt at h
  simp [World.frozen?, h]
theorem BoxAt.set9 {w : World} {g : Nat} {cs : Array Value} {t : TypeId} (h : BoxAt w g cs t) (i : Nat) (v : Value) : BoxAt (w.setCell ⟨g, i, none⟩ v) g (cs.setIfInBounds i v) t := heap_set i v h
/-- it is no row of one's own of another kind -/
theorem BoxAt.apart9 {w : World} {g base s n : Nat} {cs : Array Value} {t e : TypeId} {v : Value} {xs : List Value} (h : BoxAt w g cs t) (ht : t ≠ e) (hown : w.ownsRow base e s v n xs) : some g ≠ v.ownBlock := by
  intro he
  rcases hown.2 with ⟨rfl, _⟩ | ⟨g', cap, cur, rfl, _, hg', _⟩
  · cases he
  · injection he with he
    subst he
    unfold BoxAt at h
    have h2 := h.symm.trans hg'
    injection h2 with h2
    injection h2 with _ h2
    exact ht h2
theorem BoxAt.grown9 {w w' : World} {g base s n : Nat} {cs : Array Value} {t e : TypeId} {v : Value} {xs : List Value} (h : BoxAt w g cs t) (ht : t ≠ e) (hown : w.ownsRow base e s v n xs) (hg : w.grownBy w' v.ownBlock) : BoxAt w' g cs t :=
  (hg.block g h.lt (h.apart9 ht hown)).trans h
/-- a row of one's own, where another block was written -/
theorem own_other9 {w w' : World} {g base s n : Nat} {e : TypeId} {v : Value} {xs : List Value} (h : w.ownsRow base e s v n xs) (hne : some g ≠ v.ownBlock) (hg : w.grownBy w' (some g)) : w'.ownsRow base e s v n xs := by
  refine ⟨h.1, ?_⟩
  rcases h.2 with h0 | ⟨g', cap, cur, rfl, h1, hg', h2⟩
  · exact .inl h0
  · exact .inr ⟨g', cap, cur, rfl, h1, (hg.block g' (Array.getElem?_eq_some_iff.1 hg').1 fun e => hne (by rw [← e]; rfl)).trans hg', h2⟩
theorem grown_cell9 (w : World) (g i : Nat) (v : Value) : w.grownBy (w.setCell ⟨g, i, none⟩ v) (some g) := grown_set (World.grownBy.refl w _) i v
end Go.Proofs.YtkgnondlcaklnaaGreat

/-
  Append onto a row of one's own of elements of some cells each. Nothing here speaks of a program.
-/
namespace Go.Proofs.YtkgnondlcaklnaaGreat
open Go.RowKit

theorem sees_box (w : World) (cs : Array Value) (t : TypeId) (xs : List Value) (h : cs.toList = xs) : Sees (w.alloc (.cells cs t)) (w.heap.size + 1) (some ⟨w.heap.size, 0, none⟩) xs := fun _ => by
  refine ⟨_, rfl, by simp, fun j u hu => ?_⟩
  rw [Addr.add_lit, cell_of_row _ _ _ _ _ _ (heap_alloc_new w _)]
  rw [← h] at hu
  simpa using hu

section
variable {P : Program} (w : World)

/-- append onto a row of one's own of elements of some cells each, whatever is appended -/
theorem run_append_rows (base : Nat) (t ty e : TypeId) (i : TypeInfo) (z : Value) (size bytes : Nat) (ht : P.underlying t = some (.slice e)) (hi : P.info? e = some i) (hz : i.zero = some z)
    (hsize : i.size = size) (hby : i.bytes = bytes) (hzs : z.cells.size = size) (hsz : 0 < size) (v : Value) (n : Nat) (xs : List Value) (hown : w.ownsRow base e size v n xs)
    (B : Nat) (A : Option Addr) (m c : Nat) (news : List Value) (hl : news.length = m * size) (hr : Sees w B A news) (h1 : ∀ u ∈ news, u.oneCell' = true)
    (h63 : n + m ≤ maxLen) (hbytes : (n + m) * bytes ≤ 140737488355328) (hbase : base ≤ w.heap.size) :
    ∃ v' w', (Builtin.append_ #[t, t] ty #[v, .slice A m c]).run P w = .ok v' w' ∧ w'.ownsRow base e size v' (n + m) (xs ++ news) ∧ w.grownBy w' v.ownBlock ∧ (v'.ownBlock = v.ownBlock ∨ v'.ownBlock = some w.heap.size) := by
  rcases A with _ | a
  · have hm : m = 0 := by
      rcases Nat.eq_zero_or_pos m with h0 | h0
      · exact h0
      · obtain ⟨ad, h', _⟩ := hr (by rw [hl]; exact Nat.mul_pos h0 hsz)
        cases h'
    subst hm
    obtain rfl : news = [] := List.eq_nil_of_length_eq_zero (by rw [hl, Nat.zero_mul])
    refine ⟨v, w, ?_, by simpa using hown, World.grownBy.refl w _, .inl rfl⟩
    rcases hown.2 with ⟨rfl, rfl⟩ | ⟨g, cap, cur, rfl, _, _, hnc, _⟩
    · simp [Builtin.append_, run_underlying ht, sizeOf, typeInfo, hi, Builtin.lenOf, Builtin.firstCells]
    · simp [Builtin.append_, run_underlying ht, sizeOf, typeInfo, hi, Builtin.lenOf, Builtin.firstCells, hnc, storeCells]
  · have hcells : ∀ j u, news[j]? = some u → w.cell? (a.add j) = some u := by
      intro j u hu
      have hj : 0 < news.length := by
        have := (List.getElem?_eq_some_iff.1 hu).1
        omega
      obtain ⟨ad, h', _, hc⟩ := hr hj
      injection h' with h'
      subst h'
      exact hc j u hu
    obtain ⟨v', w', hrun, h2, h3, _, h5⟩ := run_append_own_at (P := P) w base t ty e i z size bytes ht hi hz hsize hby hzs hsz v n xs hown a m c news hl hcells h1 h63 hbytes hbase
    exact ⟨v', w', hrun, h2, h3, h5⟩

end

section
variable {P : Program}

/-- the walk's step: append of cells onto a row of one's own -/
theorem wpList_append_cells (w : World) {ops : Array Oper} {rest : List Oper} {o : Oper} {a : Act} {Q : Exit → Act → World → Prop} (hgd : Region.wanted o (yielded ops a.tmps) = true) (s x : Operand) (t : TypeId)
    (ho : o.op = .call { callee := .builtin .append, args := #[s, x], argTypes := #[t, t] })
    (base : Nat) (e : TypeId) (z : Value) (size bytes : Nat) (hinfo : (P.info? e).map (fun i => (i.zero, i.size, i.bytes)) = some (some z, size, bytes)) (hzs : z.cells.size = size) (hsz : 0 < size) (ht : P.underlying t = some (.slice e))
    (v : Value) (n : Nat) (xs : List Value) (hs : a.eval s = v) (hown : w.ownsRow base e size v n xs)
    (B : Nat) (A : Option Addr) (m c : Nat) (news : List Value) (hx : a.eval x = .slice A m c) (hl : news.length = m * size) (hr : Sees w B A news) (h1 : ∀ u ∈ news, u.oneCell' = true) (hm : n + m ≤ 1000000) (hb : bytes ≤ 1000) (hbase : base ≤ w.heap.size)
    (r : Nat) (hr2 : n + m = r) (ys : List Value) (hys : xs ++ news = ys)
    (h : ∀ A' c' w', w'.ownsRow base e size (.slice A' r c') r ys → Below base w w' → wpList P ops Q rest (a.put o.dst (.slice A' r c')) w') : wpList P ops Q (o :: rest) a w := by
  refine wpList_step fun _ hK => ?_
  rw [if_pos hgd]
  obtain ⟨i0, hi, hz0, hz1, hz2⟩ := info_parts hinfo
  subst hr2 hys
  obtain ⟨v', w', hrun, h2, h3, _⟩ := run_append_rows (P := P) w base t o.type e i0 z size bytes ht hi hz0 hz1 hz2 hzs hsz v n xs hown B A m c news hl hr h1 (by unfold maxLen; omega)
    (Nat.le_trans (Nat.mul_le_mul hm hb) (by decide)) hbase
  have hv : ∃ A' c', v' = .slice A' (n + m) c' := by
    rcases h2.2 with ⟨rfl, h0⟩ | ⟨g, cap, cur, rfl, _⟩
    · exact ⟨none, 0, by rw [h0]⟩
    · exact ⟨_, _, rfl⟩
  obtain ⟨A', c', rfl⟩ := hv
  unfold Oper.wp execOp
  simp only [ho, resolve, invoke, builtin, Sem.run_bind, Sem.run_pure, Result.andThen_ok, List.map_toArray, List.map_cons, List.map_nil, hs, hx, hrun]
  exact hK _ _ (h A' c' w' h2 ((Below.refl base w).grown h3 hbase fun k hk => (hown.lt k hk).1))
end

section
variable {P : Program}
/-- an append onto a row of one's own, under a name of its own -/
theorem run_append_named (w : World) (base : Nat) (t e : TypeId) (z : Value) (size bytes : Nat) (hinfo : (P.info? e).map (fun i => (i.zero, i.size, i.bytes)) = some (some z, size, bytes)) (hzs : z.cells.size = size) (hsz : 0 < size) (ht : P.underlying t = some (.slice e))
    (A : Option Addr) (n c : Nat) (xs : List Value) (hown : w.ownsRow base e size (.slice A n c) n xs) (B : Nat) (D : Option Addr) (m k : Nat) (news : List Value) (hl : news.length = m * size) (hr : Sees w B D news) (h1 : ∀ u ∈ news, u.oneCell' = true) (hm : n + m ≤ 1000000) (hb : bytes ≤ 1000) (hbase : base ≤ w.heap.size) :
    ∃ A' c' w', (∀ ty, (Builtin.append_ #[t, t] ty #[.slice A n c, .slice D m k]).run P w = .ok (.slice A' (n + m) c') w') ∧ w'.ownsRow base e size (.slice A' (n + m) c') (n + m) (xs ++ news) ∧ w.grownBy w' (Value.slice A n c).ownBlock ∧ ((Value.slice A' (n + m) c').ownBlock = (Value.slice A n c).ownBlock ∨ (Value.slice A' (n + m) c').ownBlock = some w.heap.size) := by
  obtain ⟨i0, hi, hz0, hz1, hz2⟩ := info_parts hinfo
  obtain ⟨v', w', hrun, h2, h3, h4⟩ := run_append_rows (P := P) w base t 0 e i0 z size bytes ht hi hz0 hz1 hz2 hzs hsz (.slice A n c) n xs hown B D m k news hl hr h1 (by unfold maxLen; omega)
    (Nat.le_trans (Nat.mul_le_mul hm hb) (by decide)) hbase
  obtain ⟨A', c', rfl⟩ : ∃ A' c', v' = .slice A' (n + m) c' := by
    rcases h2.2 with ⟨rfl, h0⟩ | ⟨g, cap, cur, rfl, _⟩
    · exact ⟨none, 0, by rw [h0]⟩
    · exact ⟨_, _, rfl⟩
  exact ⟨A', c', w', fun ty => hrun, h2, h3, h4⟩
end

section
variable {P : Program}
/-- the walk's step: append of cells onto a row of one's own: what else has changed -/
theorem wpList_append_grown (w : World) {ops : Array Oper} {rest : List Oper} {o : Oper} {a : Act} {Q : Exit → Act → World → Prop} (hgd : Region.wanted o (yielded ops a.tmps) = true) (s x : Operand) (t : TypeId)
    (ho : o.op = .call { callee := .builtin .append, args := #[s, x], argTypes := #[t, t] })
    (base : Nat) (e : TypeId) (z : Value) (size bytes : Nat) (hinfo : (P.info? e).map (fun i => (i.zero, i.size, i.bytes)) = some (some z, size, bytes)) (hzs : z.cells.size = size) (hsz : 0 < size) (ht : P.underlying t = some (.slice e))
    (v : Value) (n : Nat) (xs : List Value) (hs : a.eval s = v) (hown : w.ownsRow base e size v n xs)
    (B : Nat) (A : Option Addr) (m c : Nat) (news : List Value) (hx : a.eval x = .slice A m c) (hl : news.length = m * size) (hr : Sees w B A news) (h1 : ∀ u ∈ news, u.oneCell' = true) (hm : n + m ≤ 1000000) (hb : bytes ≤ 1000) (hbase : base ≤ w.heap.size)
    (r : Nat) (hr2 : n + m = r) (ys : List Value) (hys : xs ++ news = ys)
    (h : ∀ A' c' w', w'.ownsRow base e size (.slice A' r c') r ys → w.grownBy w' v.ownBlock → wpList P ops Q rest (a.put o.dst (.slice A' r c')) w') : wpList P ops Q (o :: rest) a w := by
  refine wpList_step fun _ hK => ?_
  rw [if_pos hgd]
  obtain ⟨i0, hi, hz0, hz1, hz2⟩ := info_parts hinfo
  subst hr2 hys
  obtain ⟨v', w', hrun, h2, h3, _⟩ := run_append_rows (P := P) w base t o.type e i0 z size bytes ht hi hz0 hz1 hz2 hzs hsz v n xs hown B A m c news hl hr h1 (by unfold maxLen; omega)
    (Nat.le_trans (Nat.mul_le_mul hm hb) (by decide)) hbase
  have hv : ∃ A' c', v' = .slice A' (n + m) c' := by
    rcases h2.2 with ⟨rfl, h0⟩ | ⟨g, cap, cur, rfl, _⟩
    · exact ⟨none, 0, by rw [h0]⟩
    · exact ⟨_, _, rfl⟩
  obtain ⟨A', c', rfl⟩ := hv
  unfold Oper.wp execOp
  simp only [ho, resolve, invoke, builtin, Sem.run_bind, Sem.run_pure, Result.andThen_ok, List.map_toArray, List.map_cons, List.map_nil, hs, hx, hrun]
  exact hK _ _ (h A' c' w' h2 h3)
end

/-- a row of one's own is seen -/
theorem Sees.ownRow9 {w : World} {base n c s : Nat} {e : TypeId} {A : Option Addr} {xs : List Value} (h : w.ownsRow base e s (.slice A n c) n xs) : Sees w w.heap.size A xs := fun hn => by
  rcases h.2 with ⟨hv, rfl⟩ | ⟨g, cap, cur, hv, _, hg, _, _, hsz, hx⟩
  · have := h.1
    omega
  · injection hv with hA
    subst hA
    have hlt : g < w.heap.size := (Array.getElem?_eq_some_iff.1 hg).1
    refine ⟨_, rfl, hlt, fun j u hu => ?_⟩
    rw [Addr.add_lit, cell_of_row w g _ _ _ _ hg, Nat.zero_add, ← Array.getElem?_toList]
    rw [← hx, List.getElem?_take] at hu
    split at hu
    · exact hu
    · cases hu
/-- a row of one's own stays where a row of another kind grows -/
theorem own_beside9 {w w' : World} {b1 b2 s1 s2 n1 n2 : Nat} {e1 e2 : TypeId} {v1 v2 : Value} {x1 x2 : List Value} (h1 : w.ownsRow b1 e1 s1 v1 n1 x1) (h2 : w.ownsRow b2 e2 s2 v2 n2 x2) (hne : e1 ≠ e2) (hg : w.grownBy w' v2.ownBlock) : w'.ownsRow b1 e1 s1 v1 n1 x1 := by
  refine ⟨h1.1, ?_⟩
  rcases h1.2 with h0 | ⟨g, cap, cur, rfl, ha, hb, hc⟩
  · exact .inl h0
  · refine .inr ⟨g, cap, cur, rfl, ha, (hg.block g (Array.getElem?_eq_some_iff.1 hb).1 fun e => ?_).trans hb, hc⟩
    rcases h2.2 with ⟨rfl, _⟩ | ⟨g2, cap2, cur2, rfl, _, hb2, _⟩
    · cases e
    · injection e with e
      subst e
      have h3 := hb.symm.trans hb2
      injection h3 with h3
      injection h3 with _ h3
      exact hne h3
/-- a row that is laid empty -/
theorem own_empty9 {w : World} {base s : Nat} (e : TypeId) (hb : base ≤ w.heap.size) : (w.alloc (.cells #[] e)).ownsRow base e s (.slice (some ⟨w.heap.size, 0, none⟩) 0 0) 0 [] :=
  ⟨by simp, .inr ⟨w.heap.size, 0, #[], rfl, hb, heap_alloc_new w _, Nat.le_refl _, by simp [maxLen], by simp, by simp⟩⟩
end Go.Proofs.YtkgnondlcaklnaaGreat
