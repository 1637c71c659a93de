/-
  A row of a disk that is written; contract of the disk's Spoil.
-/
import Derived.Test.YtcpoppfifadbiaaSec6
namespace Go.Proofs.Ytcpoppfifadbiaa
open Go.RowKit

section
variable {w w' : World} {L : Lay} {D : Dk}
/-- a row that stays is written -/
theorem DiskAt.rowset (h : DiskAt w L D) {i g : Nat} {l' : List UInt8} (hK : L.K i = some g) (hg : w.grownBy w' (some g)) (hr : RowIs w' g l') (hl : l'.length = D.n) {D' : Dk} (hD : D' = { D with kept := fun j => if j = i then l' else D.kept j }) : DiskAt w' L D' := by
  subst hD
  have hbox := h.box
  unfold BoxAt at hbox
  obtain ⟨cg, hcg⟩ := h.kK hK
  obtain ⟨es, k, em⟩ := h.map.is
  have hoth : ∀ k ob, w.heap[k]? = some ob → k ≠ g → w'.heap[k]? = w.heap[k]? := fun k ob hk hne => hg.block k (Array.getElem?_eq_some_iff.1 hk).1 fun e => hne (by injection e)
  exact {
    box := (hoth _ _ hbox (two_kinds hbox hcg (by decide))).trans hbox
    map := h.map.stay (hoth _ _ em (fun e => map_kind hcg em e.symm))
    row := ownsRow_stay h.row fun k o s e => by
      obtain ⟨cur, hx⟩ := h.kA e
      exact hoth _ _ hx (two_kinds hx hcg (by decide))
    len := h.len
    keep := fun j g' e => by
      by_cases hj : j = i
      · subst hj
        rw [hK] at e
        injection e with e
        subst e
        exact ⟨(h.keep j g hK).1, by simpa using hr⟩
      · have hne : g' ≠ g := fun e' => hj (h.inj _ _ _ e (by rw [e']; exact hK))
        obtain ⟨cur, hx⟩ := h.kK e
        exact ⟨(h.keep j g' e).1, by simpa [hj] using (h.keep j g' e).2.stay12 (hoth _ _ hx hne)⟩
    zero := fun j e => by
      have hj : j ≠ i := fun e' => by
        rw [e', hK] at e
        cases e
      simpa [hj] using h.zero j e
    inj := h.inj
    wt := fun j p q e1 e2 => by
      obtain ⟨cur, hx⟩ := h.kG (List.mem_of_getElem? e1)
      have hw := h.wt j p q e1 e2
      exact ⟨hw.1.stay12 (hoth _ _ hx (fun e => hw.2.2 i (by rw [hK, e]))), hw.2⟩
    ok := ⟨h.ok.n1, h.ok.n2, h.ok.c1, h.ok.c2, fun j => by
      by_cases hj : j = i
      · simpa [hj] using hl
      · simpa [hj] using h.ok.k j, h.ok.ws, h.ok.wn, h.ok.l1, h.ok.l2⟩ }

/-- what 'Spoil' leaves -/
def Spoils (L : Lay) (D : Dk) (i at_ : Int) (b : UInt8) (w : World) (e : Ending) (w' : World) : Prop := e = .returned (.int .i64 (perrD D i at_)) ∧ Does L w w' (spoilD D i at_ b)

theorem isBelow_at (i m : Int) (t : Bool) (h : decide (0 ≤ i ∧ i < m) = t) (w : World) : Calls Try.prog 58 #[.int .i64 i, .int .i64 m] w fun e w' => e = .returned (.bool t) ∧ w = w' := by
  rw [← h]
  exact isBelow_any i m w

theorem Lasts.does {i : Nat} {e : Ending} (hl : Lasts L D i w e w') : ∃ K' g, e = .returned (.slice (some ⟨g, 0, none⟩) D.n D.n) ∧ K' i = some g ∧ DiskAt w' { L with K := K' } D ∧ Chg L.has w w' ∧ ∀ k, Lay.has { L with K := K' } k → L.has k ∨ w.heap.size ≤ k := by
  obtain ⟨K', g, rfl, hk, hd, hc, _, hs⟩ := hl
  refine ⟨K', g, rfl, hk, hd, hc.mono fun k e => .inr (.inl e), fun k hk => ?_⟩
  rcases hk with e | e | e | ⟨j, e⟩ | e
  · exact .inl (.inl e)
  · exact .inl (.inr (.inl e))
  · exact .inl (.inr (.inr (.inl e)))
  · rcases hs j k e with h | h
    · exact .inl (.inr (.inr (.inr (.inl ⟨j, h⟩))))
    · exact .inr h
  · exact .inl (.inr (.inr (.inr (.inr e))))

theorem xor8 (a b : UInt8) : bits .xor .u8 (a.toNat : Int) (b.toNat : Int) = ((a ^^^ b).toNat : Int) := by
  have ha : a.toNat < 256 := a.toNat_lt
  have hb : b.toNat < 256 := b.toNat_lt
  rw [u8_xor_nat _ _ ha hb, UInt8.toNat_xor]

set_option maxRecDepth 100000 in
theorem Spoil_any (h : DiskAt w L D) (i at_ : Int) (b : UInt8) :
    Calls Try.prog 35 #[.pointer (some ⟨L.b, 0, none⟩), .int .i64 i, .int .i64 at_, .int .u8 (b.toNat : Int)] w (Spoils L D i at_ b w) := by
  have H := hide_ h
  have c0 := h.c0
  have c1 := h.c1
  have HM := hide_ (isMade_any h)
  by_cases hi : 0 ≤ i ∧ i < D.c
  · have HI := hide_ (isBelow_at i D.c true (decide_eq_true hi))
    by_cases ha : 0 ≤ at_ ∧ at_ < D.n
    · have HA := hide_ (isBelow_at at_ D.n true (decide_eq_true ha))
      have he : perrD D i at_ = 0 := if_pos ⟨hi, ha⟩
      obtain ⟨p, rfl⟩ : ∃ p : Nat, i = (p : Int) := ⟨i.toNat, by omega⟩
      obtain ⟨q, rfl⟩ : ∃ q : Nat, at_ = (q : Int) := ⟨at_.toNat, by omega⟩
      have HP := hide_ (show p < D.c by omega)
      have hq : q < D.n := by omega
      have HL := hide_ (lasting_any h p HP.out)
      have HE := hide_ he
      clear h hi ha he
      go_enter Try.func35, Try.ntmps35
      go_wp2_with (first | (go_at_call 37; refine HM.out.mono ?_; rintro e w1 ⟨rfl, rfl⟩) | (go_at_call_of 58 p; refine (HI.out _).mono ?_; rintro e w1 ⟨rfl, rfl⟩) | (go_at_call 58; refine (HA.out _).mono ?_; rintro e w1 ⟨rfl, rfl⟩) | (go_at_call 59; refine HL.out.mono ?_; rintro e w1 hl; obtain ⟨K', g, rfl, hk, hd, hc, hs⟩ := hl.does; clear hl; (obtain ⟨q0, q1⟩ := (hd.keep p g hk).2.get (j := q) (by rw [hd.ok.k]; exact hq)); (have HK := hide_ hk); (have HD := hide_ hd); (have HC := hide_ hc); (have HS := hide_ hs); (obtain ⟨x, hx⟩ : ∃ x, (D.kept p).getD q 0 = x := ⟨_, rfl⟩); (rw [hx] at q0); (have HX := hide_ hx); clear hk hd hc hs hx))
      go_ret
      refine ⟨by rw [HE.out]; rfl, ?_⟩
      rw [xor8]
      have hr : RowIs (w1.setCell ⟨g, q, none⟩ (.int .u8 ((x ^^^ b).toNat : Int))) g ((D.kept p).set q (x ^^^ b)) := (HD.out.keep p g HK.out).2.set_ (j := q) (x ^^^ b)
      refine ⟨{ L with K := K' }, rfl, HD.out.rowset (i := p) (g := g) HK.out (grown_cell9 w1 g q _) hr (by rw [List.length_set]; exact HD.out.ok.k p) ?_, ?_, HS.out⟩
      · rw [spoilD, if_pos HE.out, Int.toNat_natCast, Int.toNat_natCast]
        congr 1
        funext j
        split
        · rename_i e
          rw [e, HX.out]
        · rfl
      · refine HC.out.trans (Chg.of_grown (S := Lay.has { L with K := K' }) (grown_cell9 w1 g q _) (.inl (.inr (.inr (.inr (.inl ⟨p, HK.out⟩)))))) fun k hk hlt => ?_
        rcases HS.out k hk with h | h
        · exact h
        · omega
    · have HA := hide_ (isBelow_at at_ D.n false (decide_eq_false ha))
      have he : perrD D i at_ = 6 := if_neg (fun h => ha h.2)
      have HE := hide_ he
      clear h hi ha he
      go_enter Try.func35, Try.ntmps35
      go_wp2_with (first | (go_at_call 37; refine HM.out.mono ?_; rintro e w1 ⟨rfl, rfl⟩) | (go_at_call 58; with_reducible refine (HI.out _).mono ?_; rintro e w1 ⟨rfl, rfl⟩) | (go_at_call 58; with_reducible refine (HA.out _).mono ?_; rintro e w1 ⟨rfl, rfl⟩))
      go_ret
      refine ⟨by rw [HE.out]; rfl, ?_⟩
      rw [spoilD, if_neg (by rw [HE.out]; decide)]
      exact Does.of_stay H.out (Below.refl _ _)
  · have HI := hide_ (isBelow_at i D.c false (decide_eq_false hi))
    have he : perrD D i at_ = 6 := if_neg (fun h => hi h.1)
    have HE := hide_ he
    clear h hi he
    go_enter Try.func35, Try.ntmps35
    go_wp2_with (first | (go_at_call 37; refine HM.out.mono ?_; rintro e w1 ⟨rfl, rfl⟩) | (go_at_call 58; refine (HI.out _).mono ?_; rintro e w1 ⟨rfl, rfl⟩))
    go_ret
    refine ⟨by rw [HE.out]; rfl, ?_⟩
    rw [spoilD, if_neg (by rw [HE.out]; decide)]
    exact Does.of_stay H.out (Below.refl _ _)
end
end Go.Proofs.Ytcpoppfifadbiaa
