/-
  Texts of this claim put together: Base, Put.
-/
import Derived.Test.YtecbpmnolgkllaaRows
import Derived.Test.YtecbpmnolgkllaaMem
import Derived.WalkKit
import Derived.Laws.CopyOwn
/-
  Plain lemmas of this claim's own on bytes in memory that know the type uint8: what a function leaves that makes bytes, a block that begins with bytes.
-/
namespace Go.Proofs.Ytecbpmnolgkllaa
open Go.RowKit

theorem u8_info : (Try.prog.info? 5).map (fun i => (i.zero, i.size, i.bytes)) = some (some (.int .u8 0), 1, 1) := by kernel_rfl
theorem u8_one : (Try.prog.info? 5).map (·.size) = some 1 := by kernel_rfl

/-- what a function leaves that makes bytes -/
def Puts (w : World) (l : List UInt8) (e : Ending) (w' : World) : Prop :=
  ∃ A c, e = .returned (.slice A l.length c) ∧ w'.ownsRow w.heap.size 5 1 (.slice A l.length c) l.length (bv l) ∧ Below w.heap.size w w'

theorem own_slice {w : World} {base : Nat} {e : TypeId} {v : Value} {n : Nat} {xs : List Value} (h : w.ownsRow base e 1 v n xs) : ∃ A c, v = .slice A n c := by
  rcases h.2 with ⟨rfl, rfl⟩ | ⟨g, cap, cur, rfl, _⟩
  · exact ⟨_, _, rfl⟩
  · exact ⟨_, _, rfl⟩
theorem own_rw {w : World} {base n m : Nat} {e : TypeId} {v : Value} {xs ys : List Value} (h : w.ownsRow base e 1 v n xs) (hn : n = m) (hx : xs = ys) : w.ownsRow base e 1 v m ys := by
  subst hn hx
  exact h

theorem byte_of {n : Nat} (h : n < 256) : ((UInt8.ofNat n).toNat : Int) = (n : Int) := by
  have : (UInt8.ofNat n).toNat = n := by simp; omega
  rw [this]

theorem Below.of_drew {w w' : World} (h : Below w.drew.heap.size w.drew w') : Below w.heap.size w w' := (Below.refl w.heap.size w).drew.trans h

/-- a block that begins with these bytes -/
def RowIs (w : World) (g : Nat) (l : List UInt8) : Prop := ∃ cur : Array Value, w.heap[g]? = some (.cells cur 5 (0, 0)) ∧ cur.toList.take l.length = bv l
theorem RowIs.get {w : World} {g : Nat} {l : List UInt8} (h : RowIs w g l) {j : Nat} (hj : j < l.length) : w.cell? ⟨g, j, none⟩ = some (.int .u8 ((l.getD j 0).toNat : Int)) ∧ w.frozen? ⟨g, j, none⟩ = false := by
  obtain ⟨cur, hg, hc⟩ := h
  refine ⟨?_, by simp [World.frozen?, hg]⟩
  rw [cell_of_row w g j _ _ _ hg]
  have e := congrArg (fun x => x[j]?) hc
  simp only [List.getElem?_take, if_pos hj, bv_getElem?] at e
  rw [← Array.getElem?_toList, e, List.getD_eq_getElem?_getD, List.getElem?_eq_getElem hj]
  rfl
theorem RowIs.set_ {w : World} {g : Nat} {l : List UInt8} (h : RowIs w g l) {j : Nat} (b : UInt8) : RowIs (w.setCell ⟨g, j, none⟩ (.int .u8 (b.toNat : Int))) g (l.set j b) := by
  obtain ⟨cur, hg, hc⟩ := h
  refine ⟨_, heap_set j _ hg, ?_⟩
  rw [Array.toList_setIfInBounds, List.length_set, List.take_set, hc]
  simp [bv, List.map_set]
theorem RowIs.sees {w : World} {g : Nat} {l : List UInt8} (h : RowIs w g l) : Sees w w.heap.size (some ⟨g, 0, none⟩) (bv l) := fun hn => by
  have hg : g < w.heap.size := by
    obtain ⟨cur, hg, _⟩ := h
    exact (Array.getElem?_eq_some_iff.1 hg).1
  refine ⟨_, rfl, hg, fun j u hu => ?_⟩
  have hj : j < l.length := by
    have := (List.getElem?_eq_some_iff.1 hu).1
    rwa [bv_length] at this
  have hadd : (⟨g, 0, none⟩ : Addr).add j = ⟨g, j, none⟩ := by unfold Addr.add; split <;> simp_all
  rw [hadd, (h.get hj).1, ← hu, bv_getElem?, List.getD_eq_getElem?_getD, List.getElem?_eq_getElem hj]
  rfl
theorem own_row {w : World} {base n c : Nat} {A : Option Addr} {l : List UInt8} (h : w.ownsRow base 5 1 (.slice A n c) n (bv l)) (hn : l.length = n) (h0 : 0 < n) : ∃ g, A = some ⟨g, 0, none⟩ ∧ base ≤ g ∧ n ≤ c ∧ RowIs w g l := by
  rcases h.2 with ⟨_, h0'⟩ | ⟨g, cap, cur, hv, hb, hg, hc, _, _, hx⟩
  · omega
  · injection hv with hA _ hcap
    subst hA hcap
    exact ⟨g, rfl, hb, hc, cur, hg, by rw [hn]; rwa [Nat.mul_one] at hx⟩

/-- old cells and old marks stay -/
theorem bcell {W w1 : World} (hb : Below W.heap.size W w1) : (∀ b o, b < W.heap.size → w1.cell? ⟨b, o, none⟩ = W.cell? ⟨b, o, none⟩) ∧ (∀ b o, b < W.heap.size → w1.frozen? ⟨b, o, none⟩ = W.frozen? ⟨b, o, none⟩) :=
  ⟨fun b o h => hb.cell (p := ⟨b, o, none⟩) h, fun b o h => hb.frozen (p := ⟨b, o, none⟩) h⟩

end Go.Proofs.Ytecbpmnolgkllaa

/-
  Contracts of pack's putting functions: what is put stands behind a copy of what was there, in new memory.
-/
namespace Go.Proofs.Ytecbpmnolgkllaa
open Go.RowKit

theorem copyOf_any (l : List UInt8) (B : Nat) (A : Option Addr) (c room : Nat) (w : World) (hs : Sees w B A (bv l)) (hB : B ≤ w.heap.size) (hr : l.length + room ≤ 281474976710656) :
    Calls Try.prog 85 #[.slice A l.length c, .int .i64 room] w fun e w' => e = .returned (.slice (some ⟨w.heap.size, 0, none⟩) l.length (l.length + room)) ∧
      w'.ownsRow w.heap.size 5 1 (.slice (some ⟨w.heap.size, 0, none⟩) l.length (l.length + room)) l.length (bv l) ∧ Below w.heap.size w w' ∧ w'.heap.size = w.heap.size + 1 := by
  obtain ⟨i0, hi, hz0, hz1, hz2⟩ := info_parts u8_info
  have hmk : ∀ u : World, (Instr.makeSlice 38 (.int .i64 (l.length : Int)) (.int .i64 ((l.length : Int) + (room : Int)))).run Try.prog u =
      .ok (.slice (some ⟨u.heap.size, 0, none⟩) l.length (l.length + room)) (u.alloc (.cells (madeCells #[.int .u8 0] (l.length + room)) 5)) := fun u => by
    have h := run_make (P := Try.prog) u 38 5 i0 (.int .u8 0) Try.underlying38 hi hz0 .i64 .i64 (l.length : Int) ((l.length : Int) + (room : Int)) (by omega) (by omega) (by rw [hz2]; omega) (by omega)
    have e1 : (l.length : Int).toNat = l.length := by omega
    have e2 : ((l.length : Int) + (room : Int)).toNat = l.length + room := by omega
    rw [e1, e2] at h
    simpa [hz1, Value.cells] using h
  have hcs : (madeCells #[Value.int .u8 0] (l.length + room)).size = l.length + room := size_madeCells _ _
  obtain ⟨w1, hcp, hrow, hgr, hsz1⟩ := run_copy_start (P := Try.prog) (w.alloc (.cells (madeCells #[.int .u8 0] (l.length + room)) 5)) 38 38 3 5 Try.underlying38 u8_one w.heap.size l.length (l.length + room) B A l.length c
    (madeCells #[.int .u8 0] (l.length + room)) 5 (heap_alloc_new w _) (bv l) (bv_length l) (Nat.le_refl _) (by omega) (bv_oneCell l) (hs.below ((Below.refl _ _).alloc hB _))
  have H1 := hide_ hrow
  clear hrow hcs
  go_enter Try.func85, Try.ntmps85
  go_wp2
  go_ret
  have hb : Below w.heap.size w w1 := ((Below.refl _ _).alloc (Nat.le_refl _) _).grown hgr (by simp) (by intro k hk; injection hk; omega)
  refine ⟨rfl, ⟨by simp [bv_length], .inr ⟨w.heap.size, _, _, rfl, Nat.le_refl _, H1.out, by omega, by unfold maxLen; omega, ?_, ?_⟩⟩, hb, ?_⟩
  · simp [bv_length, madeCells]
  · rw [Nat.mul_one, ← bv_length l]
    exact List.take_left
  · simpa using hsz1

/-- a number's bytes -/
def numB (n : Nat) : List UInt8 := if n < 128 then [UInt8.ofNat n] else UInt8.ofNat (n % 128 + 128) :: numB (n / 128)
termination_by n
decreasing_by omega
theorem numB_small {n : Nat} (h : n < 128) : numB n = [UInt8.ofNat n] := by
  rw [numB, if_pos h]
theorem numB_big {n : Nat} (h : 128 ≤ n) : numB n = UInt8.ofNat (n % 128 + 128) :: numB (n / 128) := by
  rw [numB, if_neg (by omega)]
theorem numB_length_pow (k : Nat) : ∀ n : Nat, n < 128 ^ (k + 1) → (numB n).length ≤ k + 1 := by
  induction k with
  | zero => intro n h; rw [numB_small (by omega)]; simp
  | succ k ih =>
    intro n h
    by_cases hs : n < 128
    · rw [numB_small hs]; simp
    · rw [numB_big (by omega), List.length_cons]
      have := ih (n / 128) (by rw [Nat.pow_succ] at h; omega)
      omega
theorem numB_length (n : Nat) (h : n < 18446744073709551616) : (numB n).length ≤ 10 := numB_length_pow 9 n (by omega)
theorem numB_pos (n : Nat) : 0 < (numB n).length := by
  by_cases hs : n < 128
  · rw [numB_small hs]; simp
  · rw [numB_big (by omega)]; simp

set_option maxRecDepth 100000 in
set_option maxHeartbeats 400000 in
theorem addNum_any (l : List UInt8) (x base : Nat) (v : Value) (w : World) (hx : x < 18446744073709551616) (hl : l.length ≤ 70368744177664) (hown : w.ownsRow base 5 1 v l.length (bv l)) (hbase : base ≤ w.heap.size) :
    Calls Try.prog 90 #[v, .int .u64 x] w fun e w' => ∃ v', e = .returned v' ∧ w'.ownsRow base 5 1 v' (l ++ numB x).length (bv (l ++ numB x)) ∧ Below base w w' := by
  obtain ⟨i0, hi, hz0, hz1, hz2⟩ := info_parts u8_info
  have hnl := numB_length x hx
  go_enter Try.func90, Try.ntmps90
  go_wp2
  go_loopw [0, 1] (fun b n wr => ∃ (y : Nat) (pre : List UInt8), y < 18446744073709551616 ∧ n = .int .u64 y ∧ wr.ownsRow base 5 1 b pre.length (bv pre) ∧ Hid (pre ++ numB y = l ++ numB x) ∧ Below base w wr) (fun _ n _ => (intOf n).toNat)
  case atStart => exact ⟨x, l, hx, rfl, hown, rfl, Below.refl _ _⟩
  case round =>
    obtain ⟨y, pre, hy, rfl, hpre, HE, hbel⟩ := hrel
    have hlen : pre.length ≤ 70368744177700 := by
      have := congrArg List.length HE.out
      simp at this
      omega
    by_cases hlt : 128 ≤ y
    · go_wp2_with (at_builtin; refine wpList_append_byte (P := Try.prog) _ rfl (.tmp 7) (.tmp 12) 38 rfl base 5 u8_info Try.underlying38 _ pre.length (bv pre) _ rfl hpre rfl hlen (Nat.le_trans hbase hbel.size) ?_; intro v1 w1 hown1 hbel1)
      have e1 : bv (pre ++ [UInt8.ofNat (y % 128 + 128)]) = bv pre ++ [.int .u8 ((y : Int) % 128 + 128)] := by
        rw [bv_append, bv_one, byte_of (by omega)]
        simp
      go_roundw
      case rel =>
        refine ⟨y / 128, pre ++ [UInt8.ofNat (y % 128 + 128)], by omega, by go_num, ?_, ?_, hbel.trans hbel1⟩
        · rw [e1, List.length_append]
          exact hown1
        · show _ = _
          rw [← HE.out, numB_big hlt]
          simp
      case measure => simp [intOf]; omega
    · have e1 : bv (pre ++ numB y) = bv pre ++ [.int .u8 (y : Int)] := by
        rw [numB_small (by omega), bv_append, bv_one, byte_of (by omega)]
      have e2 : (pre ++ numB y).length = pre.length + 1 := by rw [numB_small (by omega)]; simp
      have H1 := hide_ e1
      have H2 := hide_ e2
      clear e1 e2
      go_wp2_with (at_builtin; refine wpList_append_byte (P := Try.prog) _ rfl (.tmp 16) (.tmp 19) 38 rfl base 5 u8_info Try.underlying38 _ pre.length (bv pre) _ rfl hpre rfl hlen (Nat.le_trans hbase hbel.size) ?_; intro v1 w1 hown1 hbel1)
      go_ret
      refine ⟨v1, rfl, ?_, hbel.trans hbel1⟩
      rw [← HE.out, H1.out, H2.out]
      exact hown1

theorem PutNum_any (l r : List UInt8) (x B : Nat) (A : Option Addr) (n c : Nat) (w : World) (hn : l.length = n) (hres : l ++ numB x = r) (hx : x < 18446744073709551616) (hs : Sees w B A (bv l)) (hB : B ≤ w.heap.size) (hl : l.length ≤ 70368744177664) :
    Calls Try.prog 58 #[.slice A n c, .int .u64 x] w (Puts w r) := by
  subst hn hres
  have HX := hide_ hx
  clear hx
  go_enter Try.func58, Try.ntmps58
  go_wp2_with fail
  refine (copyOf_any l B A c 10 w hs hB (by omega)).mono ?_
  rintro e w1 ⟨rfl, hown1, hb1, hz1⟩
  have HZ := hide_ hz1
  clear hz1
  go_wp2_with fail
  refine (addNum_any l x w.heap.size _ w1 HX.out hl hown1 hb1.size).mono ?_
  rintro e w2 ⟨v2, rfl, hown2, hb2⟩
  go_wp2
  go_ret
  obtain ⟨A', c', rfl⟩ := own_slice hown2
  exact ⟨A', c', rfl, hown2, hb1.trans hb2⟩

/-- the number that stands for a whole one -/
def foldN (n : Int) : Nat := if n < 0 then 2 * (-1 - n).toNat + 1 else 2 * n.toNat
theorem foldN_lt (n : Int) (h1 : -9223372036854775808 ≤ n) (h2 : n ≤ 9223372036854775807) : foldN n < 18446744073709551616 := by
  unfold foldN
  split <;> omega

set_option maxRecDepth 100000 in
theorem fold_any (n : Int) (w : World) (h1 : -9223372036854775808 ≤ n) (h2 : n ≤ 9223372036854775807) :
    Calls Try.prog 156 #[.int .i64 n] w fun e w' => e = .returned (.int .u64 (foldN n)) ∧ w = w' := by
  have e : ∀ a b : Int, a = b → Ending.returned (.int .u64 a) = .returned (.int .u64 b) := fun a b h => by rw [h]
  by_cases h : n < 0
  · go_enter Try.func156, Try.ntmps156
    go_wp2
    go_ret
    exact ⟨e _ _ (by unfold foldN; rw [if_pos h]; omega), rfl⟩
  · go_enter Try.func156, Try.ntmps156
    go_wp2
    go_ret
    exact ⟨e _ _ (by unfold foldN; rw [if_neg (by omega)]; omega), rfl⟩

/-- a whole number's bytes -/
def intB (n : Int) : List UInt8 := numB (foldN n)

theorem PutInt_any (l r : List UInt8) (n : Int) (B : Nat) (A : Option Addr) (k c : Nat) (w : World) (hk : l.length = k) (hres : l ++ intB n = r) (h1 : -9223372036854775808 ≤ n) (h2 : n ≤ 9223372036854775807) (hs : Sees w B A (bv l)) (hB : B ≤ w.heap.size) (hl : l.length ≤ 70368744177664) :
    Calls Try.prog 142 #[.slice A k c, .int .i64 n] w (Puts w r) := by
  subst hk hres
  have H1 := hide_ h1
  have H2 := hide_ h2
  clear h1 h2
  go_enter Try.func142, Try.ntmps142
  go_wp2_with fail
  refine (fold_any n w H1.out H2.out).mono ?_
  rintro e w1 ⟨rfl, rfl⟩
  go_wp2_with fail
  refine (PutNum_any l _ (foldN n) B A _ c w rfl rfl (foldN_lt n H1.out H2.out) hs hB hl).mono ?_
  rintro e w1 ⟨A', c', rfl, hown, hb⟩
  go_wp2
  go_ret
  exact ⟨A', c', by simp [intB], hown, hb⟩

/-- a row's bytes -/
def rowB (row : List UInt8) : List UInt8 := numB row.length ++ row

theorem PutRow_any (l row r : List UInt8) (B : Nat) (A A2 : Option Addr) (n n2 c c2 : Nat) (w : World) (hn : l.length = n) (hn2 : row.length = n2) (hres : l ++ rowB row = r) (hs : Sees w B A (bv l)) (hs2 : Sees w B A2 (bv row)) (hB : B ≤ w.heap.size) (hl : l.length ≤ 70368744170000) (hr : row.length ≤ 70368744170000) :
    Calls Try.prog 60 #[.slice A n c, .slice A2 n2 c2] w (Puts w r) := by
  subst hn hn2 hres
  obtain ⟨i0, hi, hz0, hz1, hz2⟩ := info_parts u8_info
  have hnl := numB_length row.length (by omega)
  go_enter Try.func60, Try.ntmps60
  go_wp2_with fail
  refine (copyOf_any l B A c (10 + row.length) w hs hB (by omega)).mono ?_
  rintro e w1 ⟨rfl, hown1, hb1, hz1⟩
  have HZ := hide_ hz1
  clear hz1
  go_wp2_with fail
  refine (addNum_any l row.length w.heap.size _ w1 (by omega) (by omega) hown1 hb1.size).mono ?_
  rintro e w2 ⟨v2, rfl, hown2, hb2⟩
  have hlen : (l ++ numB row.length).length ≤ 70368744170010 := by simp; omega
  go_wp2_with (at_builtin; refine wpList_append_sees (P := Try.prog) _ rfl (.tmp 15) (.tmp 16) 38 rfl w.heap.size 5 i0 (.int .u8 0) 1 Try.underlying38 hi hz0 hz1 hz2 rfl v2 (l ++ numB row.length).length (bv (l ++ numB row.length)) rfl hown2 B A2 row.length c2 (bv row) rfl (bv_length row) ((hs2.below (hb1.mono hB)).below (hb2.mono hB)) (bv_oneCell row) (by unfold maxLen; omega) (by omega) (hb1.trans hb2).size ?_; intro v3 w3 hown3 hg3 _)
  go_ret
  have e1 : bv (l ++ rowB row) = bv (l ++ numB row.length) ++ bv row := by simp [rowB, bv]
  have e2 : (l ++ rowB row).length = (l ++ numB row.length).length + row.length := by simp [rowB]; omega
  rw [← e1, ← e2] at hown3
  obtain ⟨A', c', rfl⟩ := own_slice hown3
  exact ⟨A', c', rfl, hown3, (hb1.trans hb2).grown hg3 (hb1.trans hb2).size fun k hk => (hown2.lt k hk).1⟩

end Go.Proofs.Ytecbpmnolgkllaa
