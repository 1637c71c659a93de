/-
  Texts of this claim put together: App2.
-/
import Derived.Test.YtccfjaefnejjmaaGreatJ06
import Derived.Test.YtccfjaefnejjmaaGreatJ07
import Derived.WalkSpells
/-
  Append of whatever elements onto a row of one's own; slices.Clone of numbers.
-/
namespace Go.Proofs.YtccfjaefnejjmaaGreat
open Go.RowKit

theorem sees_box (w : World) (cs : Array Value) (t : TypeId) (xs : List Value) (h : cs.toList = xs) : Sees (w.alloc (.cells cs t)) (w.heap.size + 1) (some ⟨w.heap.size, 0, none⟩) xs := fun _ => by
  refine ⟨_, rfl, by simp, fun j u hu => ?_⟩
  rw [Addr.add_lit, cell_of_row _ _ _ _ _ _ (heap_alloc_new w _)]
  rw [← h] at hu
  simpa using hu

section
variable {P : Program}

/-- the walk's step: append of cells onto a row of one's own -/
theorem wpList_append_cells (w : World) {ops : Array Oper} {rest : List Oper} {o : Oper} {a : Act} {Q : Exit → Act → World → Prop} (hgd : Region.wanted o (yielded ops a.tmps) = true) (s x : Operand) (t : TypeId)
    (ho : o.op = .call { callee := .builtin .append, args := #[s, x], argTypes := #[t, t] })
    (base : Nat) (e : TypeId) (z : Value) (size bytes : Nat) (hinfo : (P.info? e).map (fun i => (i.zero, i.size, i.bytes)) = some (some z, size, bytes)) (hzs : z.cells.size = size) (hsz : 0 < size) (ht : P.underlying t = some (.slice e))
    (v : Value) (n : Nat) (xs : List Value) (hs : a.eval s = v) (hown : w.ownsRow base e size v n xs)
    (B : Nat) (A : Option Addr) (m c : Nat) (news : List Value) (hx : a.eval x = .slice A m c) (hl : news.length = m * size) (hr : Sees w B A news) (h1 : ∀ u ∈ news, u.oneCell' = true) (hm : n + m ≤ 1000000) (hb : bytes ≤ 1000) (hbase : base ≤ w.heap.size)
    (r : Nat) (hr2 : n + m = r) (ys : List Value) (hys : xs ++ news = ys)
    (h : ∀ A' c' w', w'.ownsRow base e size (.slice A' r c') r ys → Below base w w' → wpList P ops Q rest (a.put o.dst (.slice A' r c')) w') : wpList P ops Q (o :: rest) a w := by
  refine wpList_step fun _ hK => ?_
  rw [if_pos hgd]
  obtain ⟨i0, hi, hz0, hz1, hz2⟩ := info_parts hinfo
  subst hr2 hys
  obtain ⟨v', w', hrun, h2, h3, _⟩ := run_append_rows (P := P) w base t o.type e i0 z size bytes ht hi hz0 hz1 hz2 hzs hsz v n xs hown B A m c news hl hr h1 (by unfold maxLen; omega)
    (Nat.le_trans (Nat.mul_le_mul hm hb) (by decide)) hbase
  have hv : ∃ A' c', v' = .slice A' (n + m) c' := by
    rcases h2.2 with ⟨rfl, h0⟩ | ⟨g, cap, cur, rfl, _⟩
    · exact ⟨none, 0, by rw [h0]⟩
    · exact ⟨_, _, rfl⟩
  obtain ⟨A', c', rfl⟩ := hv
  unfold Oper.wp execOp
  simp only [ho, resolve, invoke, builtin, Sem.run_bind, Sem.run_pure, Result.andThen_ok, List.map_toArray, List.map_cons, List.map_nil, hs, hx, hrun]
  exact hK _ _ (h A' c' w' h2 ((Below.refl base w).grown h3 hbase fun k hk => (hown.lt k hk).1))
end

theorem i64_info : (Tryz.prog.info? 2).map (fun i => (i.zero, i.size, i.bytes)) = some (some (.int .i64 0), 1, 8) := by kernel_rfl
theorem iv_one (l : List Int) : ∀ u ∈ iv l, u.oneCell' = true := by
  intro u hu
  simp only [iv, List.mem_map] at hu
  obtain ⟨x, _, rfl⟩ := hu
  rfl
theorem iv_append (l m : List Int) : iv (l ++ m) = iv l ++ iv m := by simp [iv]

/-- messages as cells -/
def cellC (t : Int × Int × Int) : List Value := [.int .u64 0, .int .u8 t.1, .int .i64 t.2.1, .int .i64 t.2.2]
def cv (l : List (Int × Int × Int)) : List Value := l.flatMap cellC
theorem cv_append (l m : List (Int × Int × Int)) : cv (l ++ m) = cv l ++ cv m := by simp [cv]
theorem cv_length (l : List (Int × Int × Int)) : (cv l).length = l.length * 4 := flat_len (cs := cellC) (q := 4) (fun _ => rfl) l
theorem cell_info : (Tryz.prog.info? 50).map (fun i => (i.zero, i.size, i.bytes)) = some (some (.agg #[.int .u64 0, .int .u8 0, .int .i64 0, .int .i64 0]), 4, 32) := by kernel_rfl

set_option maxRecDepth 100000 in
theorem clone_any (vars : List Int) (V : Option Addr) (m k : Nat) (B : Nat) (w : World) (hm : vars.length = m) (hm2 : m ≤ 100000) (hs : Sees w B V (iv vars)) (hB : B ≤ w.heap.size) :
    Calls Tryz.prog 43 #[.slice V m k] w fun e w' => ∃ A c, e = .returned (.slice A m c) ∧ w'.ownsRow w.heap.size 2 1 (.slice A m c) m (iv vars) ∧ Below w.heap.size w w' := by
  have q22 : ∀ (w : World) (a : Option Addr) (n c n' c' : Nat), (binOp .eql 26 (.slice a n c) (.slice none n' c')).run Tryz.prog w = .ok (.bool a.isNone) w := fun w a n c n' c' => Lib.run_eql_slice_nil w _ _ a n c n' c' Tryz.underlying26
  rcases V with _ | ad
  · have h0 : vars = [] := by
      rcases vars with _ | ⟨x, l⟩
      · rfl
      · obtain ⟨ad, h', _⟩ := hs (by simp [iv])
        cases h'
    subst h0
    simp at hm
    subst hm
    go_enter Tryz.func43, Tryz.ntmps43
    go_wp2
    go_ret
    exact ⟨_, _, rfl, World.ownsRow_nil _ _ _ _, Below.refl _ _⟩
  · have HS := hide_ hs
    have HM := hide_ hm
    clear hs hm
    go_enter Tryz.func43, Tryz.ntmps43
    have H1 := hide_ (World.ownsRow_lit (base := w.heap.size) (e := 2) (size := 1) w #[] 0 (Nat.le_refl _) (by simp [maxLen]) (by simp))
    have H2 := hide_ (show (iv vars).length = m * 1 by rw [iv_length, HM.out]; omega)
    have H3 := hide_ (HS.out.below ((Below.refl _ _).alloc hB (.cells #[] 2)))
    go_wp2_with (at_builtin; refine wpList_append_cells _ rfl _ _ 26 rfl w.heap.size 2 (.int .i64 0) 1 8 i64_info rfl (by omega) Tryz.underlying26 _ 0 [] rfl H1.out B (some ad) m k (iv vars) rfl H2.out H3.out (iv_one vars) (by omega) (by omega) (by simp) m (by omega) (iv vars) rfl ?_; intro A c w1 hown hb)
    go_ret
    exact ⟨_, _, rfl, by assumption, (((Below.refl _ _).alloc (Nat.le_refl _) _).trans (by assumption))⟩
end Go.Proofs.YtccfjaefnejjmaaGreat
