/-
  Contract of the disk's Write.
-/
import Derived.Test.YtcpoppfifadbiaaSec4
namespace Go.Proofs.Ytcpoppfifadbiaa
open Go.RowKit

theorem wr_info : (Try.prog.info? 95).map (fun i => (i.zero, i.size, i.bytes)) = some (some (.agg #[.int .i64 0, .slice none 0 0]), 2, 32) := by kernel_rfl

section
variable {w : World} {L : Lay} {D : Dk}
theorem own_grown12 {w w' : World} {base s n : Nat} {e : TypeId} {v : Value} {xs : List Value} {row : Option Nat} (h : w.ownsRow base e s v n xs) (hg : w.grownBy w' row) (hne : ∀ g, v.ownBlock = some g → some g ≠ row) : w'.ownsRow base e s v n xs := by
  refine ⟨h.1, ?_⟩
  rcases h.2 with h0 | ⟨g, cap, cur, rfl, h1, hx, h2⟩
  · exact .inl h0
  · exact .inr ⟨g, cap, cur, rfl, h1, (hg.block g (Array.getElem?_eq_some_iff.1 hx).1 (hne g rfl)).trans hx, h2⟩

/-- one write more waits -/
theorem DiskAt.append {w1 w2 w3 : World} (h : DiskAt w L D) {i g cp : Nat} {l : List UInt8} {A' : Option Addr} {c' : Nat} (hi : i < D.c) (hl : l.length = D.n) (hcp : l.length ≤ cp) (hn : D.waits.length + 1 ≤ 100000)
    (hg : w.heap.size ≤ g) (hb : Below w.heap.size w w1) (hr : RowIs w1 g l) (hrow : w2.ownsRow 0 95 2 (.slice A' (D.waits.length + 1) c') (D.waits.length + 1) (wcs L.G D.waits ++ [.int .i64 (i : Int), .slice (some ⟨g, 0, none⟩) l.length cp]))
    (hg2 : w1.grownBy w2 (Value.slice L.A D.waits.length L.cp).ownBlock) (hloc : (Value.slice A' (D.waits.length + 1) c').ownBlock = (Value.slice L.A D.waits.length L.cp).ownBlock ∨ ∃ b, w1.heap.size ≤ b ∧ (Value.slice A' (D.waits.length + 1) c').ownBlock = some b)
    (h3 : w3 = w2.setCell ⟨L.b, 3, none⟩ (.slice A' (D.waits.length + 1) c')) : Does L w w3 { D with waits := D.waits ++ [(i, l)] } := by
  have hbox := h.box
  unfold BoxAt at hbox
  have h1 : DiskAt w1 L D := h.below hb
  have hbx1 : w1.heap[L.b]? = some (.cells (dcs L D) 64 (0, 0)) := (hb.block _ h.box.lt).trans hbox
  have hA : ∀ g, (Value.slice L.A D.waits.length L.cp).ownBlock = some g → ∃ o s, L.A = some ⟨g, o, s⟩ := by
    intro g' e
    cases hLA : L.A with
    | none => rw [hLA] at e; cases e
    | some ad =>
      rw [hLA] at e
      injection e with e
      obtain ⟨b, o, s⟩ := ad
      simp only at e
      subst e
      exact ⟨o, s, rfl⟩
  have hrw : ∀ g', (Value.slice L.A D.waits.length L.cp).ownBlock = some g' → ∃ cur, w1.heap[g']? = some (.cells cur 95 (0, 0)) := fun g' e => by
    obtain ⟨o, s, e⟩ := hA g' e
    exact h1.kA e
  have hlen : (dcs L D).size = 8 := rfl
  have hsz2 := hg2.size
  have hb2 : w2.heap[L.b]? = some (.cells (dcs L D) 64 (0, 0)) := (hg2.block _ (by have := h.box.lt; have := hb.size; omega) (fun e => by
    obtain ⟨cur, hx⟩ := hrw _ e.symm
    exact two_kinds hbx1 hx (by decide) rfl)).trans hbx1
  have hother : ∀ k ob, w1.heap[k]? = some ob → k ≠ L.b → (∀ cur, ob ≠ .cells cur 95 (0, 0)) → w3.heap[k]? = some ob := by
    intro k ob hk hne hnw
    rw [h3, Below.heap_setCell _ _ _ _ hne]
    refine (hg2.block k (Array.getElem?_eq_some_iff.1 hk).1 (fun e => ?_)).trans hk
    obtain ⟨cur, hx⟩ := hrw _ e.symm
    rw [hk] at hx
    injection hx with hx
    exact hnw _ hx
  have h8 : ∀ (k : Nat) (cur : Array Value), w1.heap[k]? = some (.cells cur 5 (0, 0)) → w3.heap[k]? = w1.heap[k]? := fun k cur hk => by
    rw [hother k _ hk (fun e => two_kinds hk hbx1 (by decide) e) (fun c e => by injection e with _ e; exact absurd e (by decide)), hk]
  have hm3 : w3.heap[L.m]? = w1.heap[L.m]? := by
    obtain ⟨es, k, em⟩ := h1.map.is
    rw [hother L.m _ em (fun e => map_kind hbx1 em e.symm) (fun c e => by cases e), em]
  have hKG : ∀ j g', L.K j = some g' → g' ≠ g := fun j g' e => by
    have := (h.keep j g' e).2.lt
    omega
  have hlt1 : ∀ k, L.has k → k < w1.heap.size := fun k hk => h1.lt hk
  have hA3 : ∀ k o s, A' = some ⟨k, o, s⟩ → k = L.b → False := by
    intro k o s e ek
    subst ek
    rcases hrow.2 with ⟨_, h0⟩ | ⟨g', cap, cur, hv, _, hx, _⟩
    · omega
    · injection hv with hv
      rw [e] at hv
      injection hv with hv
      injection hv with hv
      subst hv
      exact two_kinds hb2 hx (by decide) rfl
  refine ⟨{ L with A := A', cp := c', G := L.G ++ [(g, cp)] }, rfl, ?_, ?_, ?_⟩
  · exact {
      box := by
        rw [h3]
        have := heap_set 3 (.slice A' (D.waits.length + 1) c') hb2
        show _ = _
        rw [this]
        congr 2
        simp [dcs]
      map := h1.map.stay hm3
      row := by
        rw [wcs_snoc _ _ _ _ h.len, List.length_append, List.length_cons, List.length_nil]
        refine ownsRow_stay hrow fun k o s e => ?_
        rw [h3]
        exact Below.heap_setCell _ _ _ _ (fun ek => hA3 k o s e ek)
      len := by simp [h.len]
      keep := fun j g' e => by
        obtain ⟨cur, hx⟩ := h1.kK e
        exact ⟨(h.keep j g' e).1, ((h1.keep j g' e).2).stay12 (h8 g' cur hx)⟩
      zero := h.zero
      inj := h.inj
      wt := fun j p q e1 e2 => by
        simp only at e1 e2
        by_cases hj : j < D.waits.length
        · rw [List.getElem?_append_left (by rw [h.len]; exact hj)] at e1
          rw [List.getElem?_append_left hj] at e2
          obtain ⟨cur, hx⟩ := h1.kG (List.mem_of_getElem? e1)
          exact ⟨(h1.wt j p q e1 e2).1.stay12 (h8 _ cur hx), (h1.wt j p q e1 e2).2⟩
        · rw [List.getElem?_append_right (by omega)] at e2
          rw [List.getElem?_append_right (by rw [h.len]; omega), h.len] at e1
          have hj0 : j - D.waits.length = 0 := by
            rcases Nat.eq_zero_or_pos (j - D.waits.length) with h0 | h0
            · exact h0
            · rw [List.getElem?_eq_none (by simp; omega)] at e2
              cases e2
          rw [hj0] at e1 e2
          simp at e1 e2
          subst e1 e2
          obtain ⟨cur, hx, hc⟩ := hr
          exact ⟨RowIs.stay12 ⟨cur, hx, hc⟩ (h8 g cur hx), hcp, fun j' e => hKG j' _ e rfl⟩
      ok := ⟨h.ok.n1, h.ok.n2, h.ok.c1, h.ok.c2, h.ok.k, fun q hq => by
        rcases List.mem_append.1 hq with hq | hq
        · exact h.ok.ws q hq
        · simp at hq
          subst hq
          exact ⟨hi, hl⟩, by simp; omega, h.ok.l1, h.ok.l2⟩ }
  · have c1 : Chg L.has w w1 := Chg.of_below hb
    have c2 : Chg L.has w1 w2 := ⟨hg2.os, hg2.tape, hg2.output, hg2.size, fun k hk hn => hg2.block k hk fun e => hn (by
      obtain ⟨o, s, e⟩ := hA k e.symm
      exact .inr (.inr (.inl ⟨o, s, e⟩)))⟩
    have c3 : Chg L.has w2 w3 := by
      rw [h3]
      exact Chg.of_grown (grown_cell9 w2 L.b 3 _) (.inl (.inl rfl))
    exact (c1.trans c2 fun _ hg _ => hg).trans c3 fun _ hg _ => hg
  · intro k hk
    have hs1 := hb.size
    rcases hk with rfl | rfl | ⟨o, s, e⟩ | ⟨j, e⟩ | ⟨p, hp, rfl⟩
    · exact .inl (.inl rfl)
    · exact .inl (.inr (.inl rfl))
    · simp only at e
      rcases hloc with hq | ⟨b, hb', hq⟩
      · rw [e] at hq
        obtain ⟨o', s', e'⟩ := hA k hq.symm
        exact .inl (.inr (.inr (.inl ⟨o', s', e'⟩)))
      · rw [e] at hq
        injection hq with hq
        simp only at hq
        exact .inr (by omega)
    · exact .inl (.inr (.inr (.inr (.inl ⟨j, e⟩))))
    · rcases List.mem_append.1 hp with hp | hp
      · exact .inl (.inr (.inr (.inr (.inr ⟨p, hp, rfl⟩))))
      · simp at hp
        subst hp
        exact .inr hg
end
end Go.Proofs.Ytcpoppfifadbiaa
