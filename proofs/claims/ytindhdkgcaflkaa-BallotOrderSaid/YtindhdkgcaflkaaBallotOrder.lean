/-
  scrutineerlaw03.BallotOrder answers true for every input and leaves its input as it was; no condition.
-/
import Derived.Test.YtindhdkgcaflkaaBal2
import Derived.Test.YtindhdkgcaflkaaOpenBal
import Derived.Deep.RegionHeld
import Derived.Deep.DeepCutAuto
import Derived.Deep.RegionWith
namespace Go.Proofs.Ytindhdkgcaflkaa.ballotOrder
open Go.ChangeShapes Go.WideShapes Go.ChangeAt Go.RowKit

theorem cmpN_turn (a b : Nat) : cmpN b a = - cmpN a b := by
  rcases cmpN_cases a b with ⟨h, e⟩ | ⟨h, e⟩ | ⟨rfl, e⟩
  · rw [e, cmpN_gt h]; rfl
  · rw [e, cmpN_lt h]
  · rw [e]; rfl
theorem cmpB_turn (c n l c' n' l' : Nat) : cmpB c' n' l' c n l = - cmpB c n l c' n' l' := by
  simp only [cmpB, cmpN_turn c c', cmpN_turn n n', cmpN_turn l l', Int.neg_ne_zero]
  split
  · rfl
  · split <;> rfl
theorem cmpB_self (c n l : Nat) : cmpB c n l c n l = 0 := by simp [cmpB, cmpN_eq]
theorem cmpB_zero {c n l c' n' l' : Nat} (h : cmpB c n l c' n' l' = 0) : c = c' ∧ n = n' ∧ l = l' := by
  unfold cmpB at h
  split at h
  · exact absurd h ‹_›
  · rename_i h1
    split at h
    · exact absurd h ‹_›
    · rename_i h2
      refine ⟨?_, ?_, ?_⟩
      · rcases cmpN_cases c c' with ⟨_, e⟩ | ⟨_, e⟩ | ⟨h, _⟩ <;> omega
      · rcases cmpN_cases n n' with ⟨_, e⟩ | ⟨_, e⟩ | ⟨h, _⟩ <;> omega
      · rcases cmpN_cases l l' with ⟨_, e⟩ | ⟨_, e⟩ | ⟨h, _⟩ <;> omega
theorem cmpB_bd (c n l c' n' l' : Nat) : -1 ≤ cmpB c n l c' n' l' ∧ cmpB c n l c' n' l' ≤ 1 := by
  unfold cmpB
  rcases cmpN_cases c c' with ⟨_, e1⟩ | ⟨_, e1⟩ | ⟨_, e1⟩ <;> rcases cmpN_cases n n' with ⟨_, e2⟩ | ⟨_, e2⟩ | ⟨_, e2⟩ <;> rcases cmpN_cases l l' with ⟨_, e3⟩ | ⟨_, e3⟩ | ⟨_, e3⟩ <;> rw [e1, e2, e3] <;> decide
/-- not ahead, by the three numbers -/
theorem cmpB_le {c n l c' n' l' : Nat} : cmpB c n l c' n' l' ≤ 0 ↔ c < c' ∨ (c = c' ∧ (n < n' ∨ (n = n' ∧ l ≤ l'))) := by
  unfold cmpB
  rcases cmpN_cases c c' with ⟨_, e1⟩ | ⟨_, e1⟩ | ⟨_, e1⟩ <;> rcases cmpN_cases n n' with ⟨_, e2⟩ | ⟨_, e2⟩ | ⟨_, e2⟩ <;> rcases cmpN_cases l l' with ⟨_, e3⟩ | ⟨_, e3⟩ | ⟨_, e3⟩ <;> rw [e1, e2, e3] <;> simp <;> omega
theorem cmpB_row {c n l c' n' l' c2 n2 l2 : Nat} (h : cmpB c n l c' n' l' ≤ 0) (k : cmpB c' n' l' c2 n2 l2 ≤ 0) : cmpB c n l c2 n2 l2 ≤ 0 := by
  rw [cmpB_le] at *
  omega

/-- the three ballots stand in their boxes -/
def Three (w wx : World) (a b c : Array Value) : Prop :=
  wx.heap[w.heap.size]? = some (.cells a 25 (0, 0)) ∧ wx.heap[w.heap.size + 1]? = some (.cells b 25 (0, 0)) ∧ wx.heap[w.heap.size + 2]? = some (.cells c 25 (0, 0)) ∧ Below w.heap.size w wx
theorem Three.below {w wx wy : World} {a b c : Array Value} (h : Three w wx a b c) (hb : Below wx.heap.size wx wy) : Three w wy a b c := by
  obtain ⟨h0, h1, h2, h3⟩ := h
  exact ⟨(hb.block _ (Array.getElem?_eq_some_iff.1 h0).1).trans h0, (hb.block _ (Array.getElem?_eq_some_iff.1 h1).1).trans h1, (hb.block _ (Array.getElem?_eq_some_iff.1 h2).1).trans h2, h3.trans (hb.mono h3.size)⟩
theorem Three.drew {w wx : World} {a b c : Array Value} (h : Three w wx a b c) : Three w wx.drew a b c := h.below ((Below.refl _ _).drew)
theorem Three.cell {w wx : World} {a b c : Array Value} (h : Three w wx a b c) : (∀ i : Nat, wx.cell? ⟨w.heap.size, i, none⟩ = a[i]?) ∧ (∀ i : Nat, wx.cell? ⟨w.heap.size + 1, i, none⟩ = b[i]?) ∧ (∀ i : Nat, wx.cell? ⟨w.heap.size + 1 + 1, i, none⟩ = c[i]?) :=
  ⟨fun i => cell_of_row _ _ i _ _ _ h.1, fun i => cell_of_row _ _ i _ _ _ h.2.1, fun i => cell_of_row _ _ i _ _ _ h.2.2.1⟩
theorem Three.made (w : World) (a b c : Array Value) : Three w (((w.alloc (.cells a 25)).alloc (.cells b 25)).alloc (.cells c 25)) a b c := by
  have g : ∀ (u : World) (o : Obj) (k : Nat), k < u.heap.size → (u.alloc o).heap[k]? = u.heap[k]? := fun u o k hk => ((Below.refl u.heap.size u).alloc (Nat.le_refl _) o).block k hk
  refine ⟨?_, ?_, ?_, (((Below.refl _ _).alloc (Nat.le_refl _) _).alloc (by simp) _).alloc (by simp; omega) _⟩
  · rw [g _ _ _ (by simp; omega), g _ _ _ (by simp)]
    exact heap_alloc_new w _
  · rw [g _ _ _ (by simp)]
    exact (congrArg (fun k => ((w.alloc (.cells a 25)).alloc (.cells b 25)).heap[k]?) (by simp)).trans (heap_alloc_new (w.alloc (.cells a 25)) _)
  · exact (congrArg (fun k => (((w.alloc (.cells a 25)).alloc (.cells b 25)).alloc (.cells c 25)).heap[k]?) (by simp)).trans (heap_alloc_new ((w.alloc (.cells a 25)).alloc (.cells b 25)) _)

set_option maxHeartbeats 4000000 in
theorem walk (c n l c' n' l' c2 n2 l2 : Nat) (w : World) :
    Calls Try.prog 3 #[.agg #[.int .u64 c, .int .u8 n, .int .u32 l], .agg #[.int .u64 c', .int .u8 n', .int .u32 l'], .agg #[.int .u64 c2, .int .u8 n2, .int .u32 l2]] w fun e w' => e = .returned (.bool true) ∧ Below w.heap.size w w' := by
  have made := Three.made w #[.int .u64 c, .int .u8 n, .int .u32 l] #[.int .u64 c', .int .u8 n', .int .u32 l'] #[.int .u64 c2, .int .u8 n2, .int .u32 l2]
  have MADE := hide_ made
  clear made
  go_enter Try.func3, Try.ntmps3
  go_upto_region 1 with fail
  go_cut [7, 8, 9] (fun x y z wx => x = .int .i64 (cmpB c n l c' n' l') ∧ y = .int .i64 (cmpB c' n' l' c2 n2 l2) ∧ z = .int .i64 (cmpB c n l c2 n2 l2) ∧ Three w wx #[.int .u64 c, .int .u8 n, .int .u32 l] #[.int .u64 c', .int .u8 n', .int .u32 l'] #[.int .u64 c2, .int .u8 n2, .int .u32 l2])
  case first =>
    have HK := hide_ MADE.out.drew
    go_region_held (fun w' => Hid (Three w w' #[.int .u64 c, .int .u8 n, .int .u32 l] #[.int .u64 c', .int .u8 n', .int .u32 l'] #[.int .u64 c2, .int .u8 n2, .int .u32 l2]) ∧ (∀ i : Nat, w'.cell? ⟨w.heap.size, i, none⟩ = (#[.int .u64 c, .int .u8 n, .int .u32 l] : Array Value)[i]?) ∧ (∀ i : Nat, w'.cell? ⟨w.heap.size + 1, i, none⟩ = (#[.int .u64 c', .int .u8 n', .int .u32 l'] : Array Value)[i]?) ∧ (∀ i : Nat, w'.cell? ⟨w.heap.size + 1 + 1, i, none⟩ = (#[.int .u64 c2, .int .u8 n2, .int .u32 l2] : Array Value)[i]?))
      (exact ⟨HK, HK.out.cell⟩)
      (first | (go_at_call 6; refine (Compare_any _ _ _ _ _ _ _).mono ?_; rintro e w1 ⟨rfl, hb1⟩; have HK := hide_ (HK.out.below hb1)))
    all_goals
      go_wp2_with fail
      go_meet
      exact ⟨rfl, rfl, rfl, HK.out⟩
  case rest =>
    obtain ⟨rfl, rfl, rfl, h3⟩ := hcut
    obtain ⟨X, hX⟩ : ∃ X, cmpB c n l c' n' l' = X := ⟨_, rfl⟩
    obtain ⟨Y, hY⟩ : ∃ Y, cmpB c' n' l' c2 n2 l2 = Y := ⟨_, rfl⟩
    obtain ⟨Z, hZ⟩ : ∃ Z, cmpB c n l c2 n2 l2 = Z := ⟨_, rfl⟩
    have k1 : ∀ w : World, _ := refCompare_any c n l c' n' l'
    have k2 : ∀ w : World, _ := Compare_any c' n' l' c n l
    have hrow : X ≤ 0 → Y ≤ 0 → Z ≤ 0 := by rw [← hX, ← hY, ← hZ]; exact cmpB_row
    have hbd := cmpB_bd c n l c' n' l'
    have hz : X = 0 → c = c' ∧ n = n' ∧ l = l' := by rw [← hX]; exact cmpB_zero
    have hz' : c = c' ∧ n = n' ∧ l = l' → X = 0 := by rw [← hX]; rintro ⟨rfl, rfl, rfl⟩; exact cmpB_self c n l
    rw [cmpB_turn c n l c' n' l'] at k2
    rw [hX] at k1 k2 hbd
    rw [hX, hY, hZ]
    have K1 := hide_ k1
    have K2 := hide_ k2
    have HROW := hide_ hrow
    clear hX hY hZ k1 k2 hrow
    go_upto_region 2 with fail
    go_cut [39] (fun x wx => x = .bool false ∧ Three w wx #[.int .u64 c, .int .u8 n, .int .u32 l] #[.int .u64 c', .int .u8 n', .int .u32 l'] #[.int .u64 c2, .int .u8 n2, .int .u32 l2])
    case first =>
      obtain ⟨q0, q1, q2⟩ := h3.cell
      go_wp2_with fail
      refine (K1.out _).mono ?_
      rintro e w1 ⟨rfl, hb1⟩
      have h31 := h3.below hb1
      clear q0 q1 q2
      obtain ⟨q0, q1, q2⟩ := h31.cell
      go_wp2_with fail
      refine (K2.out _).mono ?_
      rintro e w2 ⟨rfl, hb2⟩
      have h32 := h31.below hb2
      clear q0 q1 q2
      obtain ⟨q0, q1, q2⟩ := h32.cell
      by_cases hx : X = 0
      · obtain ⟨rfl, rfl, rfl⟩ := hz hx
        subst hx
        clear hz hz'
        go_wp2_with fail
        go_meet
        exact ⟨rfl, h32⟩
      · have hb : (X == 0) = false := beq_eq_false_iff_ne.2 hx
        have hne : c ≠ c' ∨ (c = c' ∧ n ≠ n') ∨ (c = c' ∧ n = n' ∧ l ≠ l') := by omega
        clear hz hz' hx
        rcases hne with hne | ⟨rfl, hne⟩ | ⟨rfl, rfl, hne⟩
        all_goals
          go_wp2_with fail
          go_meet
          exact ⟨rfl, h32⟩
    case rest =>
      clear h3
      obtain ⟨rfl, h3⟩ := hcut
      clear K1 K2 hbd hz hz'
      go_upto_region 4 with fail
      have HK := hide_ h3.drew
      have zs : (c = 0 ∧ n = 0 ∧ l = 0) ∨ (c ≠ 0 ∨ (c = 0 ∧ n ≠ 0) ∨ (c = 0 ∧ n = 0 ∧ l ≠ 0)) := by omega
      have xs : decide (0 < X) = true ∨ (decide (0 < X) = false ∧ decide (0 < Y) = true) ∨ (decide (0 < X) = false ∧ decide (0 < Y) = false ∧ decide (Z ≤ 0) = true) := by
        have := HROW.out
        simp only [decide_eq_true_eq, decide_eq_false_iff_not]
        omega
      have q0 := h3.cell.1
      clear h3
      rcases zs with ⟨rfl, rfl, rfl⟩ | zs
      · rcases xs with hx | ⟨hx, hy⟩ | ⟨hx, hy, hz⟩
        all_goals
          first | (go_region_held (fun w' => Hid (Three w w' #[.int .u64 (0 : Nat), .int .u8 (0 : Nat), .int .u32 (0 : Nat)] #[.int .u64 c', .int .u8 n', .int .u32 l'] #[.int .u64 c2, .int .u8 n2, .int .u32 l2]) ∧ (∀ i : Nat, w'.cell? ⟨w.heap.size, i, none⟩ = (#[.int .u64 (0 : Nat), .int .u8 (0 : Nat), .int .u32 (0 : Nat)] : Array Value)[i]?))
            (exact ⟨HK, HK.out.cell.1⟩)
            (first | (go_at_call 8; refine (None_yes _).mono ?_; rintro e w1 ⟨rfl, hb1⟩; have HK := hide_ (HK.out.below hb1)) | (go_at_call 9; refine (awake03_any _).mono ?_; rintro e w2 ⟨rfl, hb2⟩; have HK := hide_ (HK.out.below hb2)))) | fail
        all_goals
          go_wp2
          go_ret
          exact ⟨rfl, HK.out.2.2.2⟩
      · have hno : ¬(c = 0 ∧ n = 0 ∧ l = 0) := by omega
        have kn : ∀ w : World, _ := None_no c n l hno
        rcases zs with zs | ⟨rfl, zs⟩ | ⟨rfl, rfl, zs⟩
        · have KN := hide_ kn
          have HNO := hide_ hno
          clear kn hno
          rcases xs with hx | ⟨hx, hy⟩ | ⟨hx, hy, hz⟩
          all_goals
            first | (go_region_held (fun w' => Hid (Three w w' #[.int .u64 c, .int .u8 n, .int .u32 l] #[.int .u64 c', .int .u8 n', .int .u32 l'] #[.int .u64 c2, .int .u8 n2, .int .u32 l2]) ∧ (∀ i : Nat, w'.cell? ⟨w.heap.size, i, none⟩ = (#[.int .u64 c, .int .u8 n, .int .u32 l] : Array Value)[i]?))
              (exact ⟨HK, HK.out.cell.1⟩)
              (first | (go_at_call 8; refine (KN.out _).mono ?_; rintro e w1 ⟨rfl, hb1⟩; have HK := hide_ (HK.out.below hb1)) | (go_at_call 9; refine (awake03_any _).mono ?_; rintro e w2 ⟨rfl, hb2⟩; have HK := hide_ (HK.out.below hb2)))) | fail
          all_goals
            go_wp2
            go_ret
            exact ⟨rfl, HK.out.2.2.2⟩
        · have KN := hide_ kn
          have HNO := hide_ hno
          clear kn hno
          rcases xs with hx | ⟨hx, hy⟩ | ⟨hx, hy, hz⟩
          all_goals
            first | (go_region_held (fun w' => Hid (Three w w' #[.int .u64 (0 : Nat), .int .u8 n, .int .u32 l] #[.int .u64 c', .int .u8 n', .int .u32 l'] #[.int .u64 c2, .int .u8 n2, .int .u32 l2]) ∧ (∀ i : Nat, w'.cell? ⟨w.heap.size, i, none⟩ = (#[.int .u64 (0 : Nat), .int .u8 n, .int .u32 l] : Array Value)[i]?))
              (exact ⟨HK, HK.out.cell.1⟩)
              (first | (go_at_call 8; refine (KN.out _).mono ?_; rintro e w1 ⟨rfl, hb1⟩; have HK := hide_ (HK.out.below hb1)) | (go_at_call 9; refine (awake03_any _).mono ?_; rintro e w2 ⟨rfl, hb2⟩; have HK := hide_ (HK.out.below hb2)))) | fail
          all_goals
            go_wp2
            go_ret
            exact ⟨rfl, HK.out.2.2.2⟩
        · have KN := hide_ kn
          have HNO := hide_ hno
          clear kn hno
          rcases xs with hx | ⟨hx, hy⟩ | ⟨hx, hy, hz⟩
          all_goals
            first | (go_region_held (fun w' => Hid (Three w w' #[.int .u64 (0 : Nat), .int .u8 (0 : Nat), .int .u32 l] #[.int .u64 c', .int .u8 n', .int .u32 l'] #[.int .u64 c2, .int .u8 n2, .int .u32 l2]) ∧ (∀ i : Nat, w'.cell? ⟨w.heap.size, i, none⟩ = (#[.int .u64 (0 : Nat), .int .u8 (0 : Nat), .int .u32 l] : Array Value)[i]?))
              (exact ⟨HK, HK.out.cell.1⟩)
              (first | (go_at_call 8; refine (KN.out _).mono ?_; rintro e w1 ⟨rfl, hb1⟩; have HK := hide_ (HK.out.below hb1)) | (go_at_call 9; refine (awake03_any _).mono ?_; rintro e w2 ⟨rfl, hb2⟩; have HK := hide_ (HK.out.below hb2)))) | fail
          all_goals
            go_wp2
            go_ret
            exact ⟨rfl, HK.out.2.2.2⟩

theorem own : ownKnob Try.prog.godebug = none := by kernel_rfl
theorem laid : laidOutB Try.prog = true := by kernel_rfl

theorem contract (H : Type) (enc : TypeId × Value → H) (W : World) (base : Nat) (args : Array Value) (ds gs : List (DataW H)) (before : List MemPlace)
    (hval : ∀ (j : Nat) t v, Try.f3.params[j]? = some t → args[j]? = some v → Value.okWide Try.prog W .any base t v)
    (hW : DataW.Whole enc Try.prog Try.f3.params.toList Rows.ballotOrderSpec.vars false W args.toList ds gs before) :
    Calls Try.prog 3 args W fun e W' => ∃ v, e = .returned v ∧ Rows.ballotOrderSpec.post enc Try.prog Try.f3 false true false false W args v W' := by
  have hW' := hW
  obtain ⟨p, q, hA0, hV, rfl, hfz, hnd⟩ := hW
  have hA : DataW.TrodAll enc Try.prog W 0 (fun _ => true) true Try.f3.params.toList args.toList ds p := hA0
  rw [Try.params3] at hA hval
  obtain ⟨v0, vs0, d0, ds0, p0, q0, hargs, rfl, rfl, h0, r0⟩ := trodAll_cons hA
  obtain ⟨v1, vs1, d1, ds1, p1, q1, rfl, rfl, rfl, h1, r1⟩ := trodAll_cons r0
  obtain ⟨v2, vs2, d2, ds2, p2, q2, rfl, rfl, rfl, h2, r2⟩ := trodAll_cons r1
  obtain ⟨rfl, rfl, rfl⟩ := trodAll_nil r2
  obtain rfl : args = #[v0, v1, v2] := by cases args; simp_all
  obtain ⟨rfl, rfl⟩ := trodVars_none hV
  obtain ⟨x0, y0, z0, rfl, _, _, _⟩ := open_bal (hval 0 25 v0 rfl rfl) h0
  obtain ⟨x1, y1, z1, rfl, _, _, _⟩ := open_bal (hval 1 25 v1 rfl rfl) h1
  obtain ⟨x2, y2, z2, rfl, _, _, _⟩ := open_bal (hval 2 25 v2 rfl rfl) h2
  have fin : ∀ (e : Ending) (W' : World), e = .returned (.bool true) ∧ Below W.heap.size W W' → ∃ v, e = .returned v ∧ Rows.ballotOrderSpec.post enc Try.prog Try.f3 false true false false W #[.agg #[.int .u64 x0, .int .u8 y0, .int .u32 z0], .agg #[.int .u64 x1, .int .u8 y1, .int .u32 z1], .agg #[.int .u64 x2, .int .u8 y2, .int .u32 z2]] v W' :=
    fun e W' ⟨he, hb⟩ => ⟨_, he, law_post laid (by kernel_rfl) rfl rfl rfl Try.underlying4 hW' hb⟩
  exact (walk x0 y0 z0 x1 y1 z1 x2 y2 z2 W).mono fin

set_option maxRecDepth 100000 in
theorem lifted (os : Os) (started : os.Started) (H : Type) (enc : TypeId × Value → H) :
    ReturnsInHanded {} Try.checked os 3 .any (Rows.ballotOrderSpec.pre6 enc Try.prog Try.f3 Rows.ballotOrderRow.domain false) (Rows.ballotOrderSpec.post enc Try.prog Try.f3 false true false false) := by
  refine returnsInHanded_of_change (C := Try.checked) (s := Rows.ballotOrderSpec) own started (by kernel_rfl) Try.func3
    (ChangeSpec.witness6 (enc := enc) (C := Try.checked) false ⟨#[], #[.agg #[.int .u64 0, .int .u8 0, .int .u32 0], .agg #[.int .u64 0, .int .u8 0, .int .u32 0], .agg #[.int .u64 0, .int .u8 0, .int .u32 0]], []⟩ 8 (by kernel_rfl) (by kernel_rfl) (by kernel_rfl) (by kernel_rfl)) ?_
  intro W base args ds gs before hval hW _ _
  exact contract H enc W base args ds gs before hval hW

theorem proved : Rows.BallotOrderSaid :=
  OpenClaim.holds_of_wide 3 Try.f3 rfl rfl rfl rfl rfl rfl rfl ⟨rfl, rfl, rfl, rfl, rfl⟩ rfl rfl rfl rfl rfl (by kernel_rfl) Try.func3 (by kernel_rfl)
    (of_decide_eq_true (by kernel_rfl)) (by unfold Func.isWrapper; first | (rw [if_pos (by decide +kernel)]; kernel_rfl) | (rw [if_neg (by decide +kernel)]; exact ⟨rfl, rfl⟩))
    (fun os started H enc _ => lifted os started H enc)
end Go.Proofs.Ytindhdkgcaflkaa.ballotOrder
