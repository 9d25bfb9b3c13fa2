/- aged: turns (54), follow (46). -/
import Derived.Test.YtildpgfhahmgmaaDoorSwA
namespace Go.Proofs.YtildpgfhahmgmaaDoor
open Go Go.Shelf Go.ChangeShapes Go.WideShapes Go.ChangeAt Go.RowKit Go.Maps
set_option linter.unusedVariables false
def trn5 (c : Cl) : List Int := [c.day, c.due + 1, c.due + 31, c.due + 61, c.due + 91]
theorem trn5_is (c : Cl) : trn c [] = trn5 c := rfl
/-- the claim's days so far -/
structure TurnsR (W wr : World) (v : Value) (n : Nat) (L : List Int) : Prop where
  row : wr.ownsRow W.heap.size 3 1 v n (kI.flat L)
  bel : Below W.heap.size W wr
  len : L.length = n
set_option maxRecDepth 100000 in
set_option maxHeartbeats 8000000 in
theorem turns_any {W : World} {p : Nat} {c : Cl} {x5 x6 x7 x8 : Value} (hp : W.heap[p]? = some (.cells #[.string c.key, .string c.acc, .int .i64 c.day, .int .i64 c.due, .int .i64 c.amt, x5, x6, x7, x8] 99 (0, 0))) (hS : Stp W) (hD : 0 ≤ c.due ∧ c.due ≤ 4000000) :
    Calls Tryd.prog 54 #[ptr p] W fun e w' => ∃ v, e = .returned v ∧ TurnsR W w' v 5 (trn5 c) := by
  have hpl := heap_lt hp
  have h2 : W.cell? ⟨p, 2, none⟩ = some (.int .i64 c.day) := by rw [cell_at hp]; rfl
  have HP := hide hp; have HS := hide hS
  have g0 : W.cell? ⟨0, 0, none⟩ = some (.int .i64 1) := hS.cell 0 (by decide)
  have g1 : W.cell? ⟨0, 1, none⟩ = some (.int .i64 31) := hS.cell 1 (by decide)
  have g2 : W.cell? ⟨0, 2, none⟩ = some (.int .i64 61) := hS.cell 2 (by decide)
  have g3 : W.cell? ⟨0, 3, none⟩ = some (.int .i64 91) := hS.cell 3 (by decide)
  have h0l := hS.lt
  have h3 : W.cell? ⟨p, 3, none⟩ = some (.int .i64 c.due) := by rw [cell_at hp]; rfl
  have ix0' := ix0; have ix1' := ix1; have ix2' := ix2; have ix3' := ix3
  have hw1 : IntKind.i64.wrap (c.due + 1) = c.due + 1 := by rw [IntKind.wrap_i64]; omega
  have hw2 : IntKind.i64.wrap (c.due + 31) = c.due + 31 := by rw [IntKind.wrap_i64]; omega
  have hw3 : IntKind.i64.wrap (c.due + 61) = c.due + 61 := by rw [IntKind.wrap_i64]; omega
  have hw4 : IntKind.i64.wrap (c.due + 91) = c.due + 91 := by rw [IntKind.wrap_i64]; omega
  unfold ptr
  clear hp hS
  have step : Hid (∀ (wr : World) (v : Value) (n : Nat) (L : List Int) (x : Int), n ≤ 5 → TurnsR W wr v n L → ∃ p' c' w', (Builtin.append_ #[57, 57] 57 #[v, .slice (some ⟨wr.heap.size, 0, none⟩) 1 1]).run Tryd.prog (wr.alloc (.cells #[.int .i64 x] 3)) = .ok (.slice p' (n + 1) c') w' ∧ TurnsR W w' (.slice p' (n + 1) c') (n + 1) (L ++ [x])) := fun wr v n L x hn h => by
    obtain ⟨p', c', w', h1, h2, h3, _⟩ := run_app kI_ok 57 (W := wr.alloc (.cells #[.int .i64 x] 3)) (B := W.heap.size) (h.row.alloc _) (Nat.le_trans h.bel.size (by simp)) (some ⟨wr.heap.size, 0, none⟩) 1 (fun h => by cases h) (one_lies wr x 3 _ rfl) (by simp; omega)
    refine ⟨p', c', w', h1, h2, ?_, by simp [h.len]⟩
    exact (h.bel.alloc h.bel.size _).trans h3
  have hrow0 : Hid (TurnsR W (W.alloc (.cells #[.int .i64 c.day] 3)) (.slice (some ⟨W.heap.size, 0, none⟩) 1 1) 1 [c.day]) := by
    refine ⟨⟨rfl, .inr ⟨W.heap.size, 1, #[.int .i64 c.day], rfl, Nat.le_refl _, heap_new _ _, Nat.le_refl _, by unfold maxLen; omega, rfl, rfl⟩⟩, (Below.refl _ _).alloc (Nat.le_refl _) _, rfl⟩
  go_enter Tryd.func54, Tryd.ntmps54
  go_wp2_with fail
  go_loopw [3, 13] (fun v3 v13 wr => ∃ (j : Nat), v13 = .int .i64 j ∧ j ≤ 4 ∧ (∃ p' c', v3 = .slice p' (j + 1) c') ∧ Hid (TurnsR W wr v3 (j + 1) ((trn5 c).take (j + 1)))) (fun _ v13 _ => 4 - (intOf v13).toNat)
  case atStart => exact ⟨0, rfl, by omega, ⟨_, _, rfl⟩, unhide hrow0⟩
  case round =>
    obtain ⟨j, rfl, hj, ⟨pp, cc, rfl⟩, hrel⟩ := hrel
    have hb := (unhide hrel).bel
    have m3 : wr.cell? ⟨p, 3, none⟩ = some (.int .i64 c.due) := (hb.cell (p := ⟨p, 3, none⟩) hpl).trans h3
    by_cases hlt : j < 4
    · have : j = 0 ∨ j = 1 ∨ j = 2 ∨ j = 3 := by omega
      rcases this with rfl | rfl | rfl | rfl
      · obtain ⟨p', c', w', hrun, hR⟩ := unhide step wr _ 1 _ (c.due + 1) (by omega) (unhide hrel)
        have HR := hide hR
        clear hR hb
        go_wp2_with (refine wpList_append_run rfl _ _ _ rfl _ _ _ _ rfl rfl hrun ?_)
        exact ⟨⟨1, rfl, by omega, ⟨_, _, rfl⟩, unhide HR⟩, by simp [intOf]⟩
      · obtain ⟨p', c', w', hrun, hR⟩ := unhide step wr _ 2 _ (c.due + 31) (by omega) (unhide hrel)
        have HR := hide hR
        clear hR hb
        go_wp2_with (refine wpList_append_run rfl _ _ _ rfl _ _ _ _ rfl rfl hrun ?_)
        exact ⟨⟨2, rfl, by omega, ⟨_, _, rfl⟩, unhide HR⟩, by simp [intOf]⟩
      · obtain ⟨p', c', w', hrun, hR⟩ := unhide step wr _ 3 _ (c.due + 61) (by omega) (unhide hrel)
        have HR := hide hR
        clear hR hb
        go_wp2_with (refine wpList_append_run rfl _ _ _ rfl _ _ _ _ rfl rfl hrun ?_)
        exact ⟨⟨3, rfl, by omega, ⟨_, _, rfl⟩, unhide HR⟩, by simp [intOf]⟩
      · obtain ⟨p', c', w', hrun, hR⟩ := unhide step wr _ 4 _ (c.due + 91) (by omega) (unhide hrel)
        have HR := hide hR
        clear hR hb
        go_wp2_with (refine wpList_append_run rfl _ _ _ rfl _ _ _ _ rfl rfl hrun ?_)
        exact ⟨⟨4, rfl, by omega, ⟨_, _, rfl⟩, unhide HR⟩, by simp [intOf]⟩
    · have hj4 : j = 4 := by omega
      subst hj4
      clear hb
      go_wp2_with fail
      go_ret
      exact ⟨_, rfl, unhide hrel⟩
/-- a list outside the view stays -/
theorem Lies.fr {α : Type} {K : Kd α} {W W' : World} {p : Option Addr} {L : List α} {X : Nat → Prop} (h : Lies K W p L) (hf : Fr W W' X) (hx : ∀ b off, p = some ⟨b, off, none⟩ → ¬ X b) : Lies K W' p L := by
  refine ⟨h.1, fun k hk => ?_⟩
  obtain ⟨b, off, e, hlt, hr⟩ := h.2 k hk
  exact ⟨b, off, e, Nat.lt_of_lt_of_le hlt hf.size, fun j u hu => (World.cell?_of_block (a := ⟨b, off + k * K.s + j, none⟩) (hf.block b hlt (hx b off e))).trans (hr j u hu)⟩
/-- which turns are marked -/
def Marks (G : Gh) (p : Nat) (L : List Int) (H' : List (Int × Nat)) : Prop := (∀ x, x ∈ H' ↔ x ∈ G.tn ∨ (x.2 = p ∧ x.1 ∈ L ∧ 1 + G.gone < x.1 ∧ x.1 ≤ 3652059)) ∧ Hp (dy H') H'.length ∧ H'.length ≤ G.tn.length + L.length
def FollowOut (W w' : World) (d : Nat) (G : Gh) (p : Nat) (L : List Int) : Prop := ∃ vt' H', Marks G p L H' ∧ Next W w' d G (({ G with vt := vt', tn := H' } : Gh).shown p (shr (G.cl p) (G.pt p) (1 + G.gone)))
theorem Marks.skip {G : Gh} {p : Nat} {L : List Int} {H' : List (Int × Nat)} {x : Int} (h : Marks G p L H') (hx : ¬ (1 + G.gone < x ∧ x ≤ 3652059)) : Marks G p (L ++ [x]) H' := by
  refine ⟨fun y => (h.1 y).trans ?_, h.2.1, by have := h.2.2; simp; omega⟩
  refine or_congr Iff.rfl ⟨fun ⟨h1, h2, h3⟩ => ⟨h1, List.mem_append_left _ h2, h3⟩, fun ⟨h1, h2, h3⟩ => ⟨h1, ?_, h3⟩⟩
  rcases List.mem_append.1 h2 with h | h
  · exact h
  · rw [List.mem_singleton] at h
    rw [h] at h3
    exact absurd h3 hx
theorem Marks.push {G : Gh} {p : Nat} {L : List Int} {H' H2 : List (Int × Nat)} {x : Int} (h : Marks G p L H') (hx : 1 + G.gone < x ∧ x ≤ 3652059) (h2 : ∀ y, y ∈ H2 ↔ y ∈ H' ∨ y = (x, p)) (hl : H2.length = H'.length + 1) (hh : Hp (dy H2) H2.length) : Marks G p (L ++ [x]) H2 := by
  refine ⟨fun y => (h2 y).trans ?_, hh, by have := h.2.2; simp; omega⟩
  rw [h.1 y]
  constructor
  · rintro ((h | ⟨h1, h2, h3⟩) | rfl)
    · exact .inl h
    · exact .inr ⟨h1, List.mem_append_left _ h2, h3⟩
    · exact .inr ⟨rfl, by simp, hx⟩
  · rintro (h | ⟨h1, h2, h3⟩)
    · exact .inl (.inl h)
    · rcases List.mem_append.1 h2 with h | h
      · exact .inl (.inr ⟨h1, h, h3⟩)
      · rw [List.mem_singleton] at h
        exact .inr (by rw [← h, ← h1])
theorem ShowOK.turns {G : Gh} {p : Nat} (h : ShowOK G p) (vt : Value) (tn : List (Int × Nat)) : ShowOK { G with vt := vt, tn := tn } p := ⟨h.len, h.pos, h.sum, h.amt, h.due, h.gone, h.age, h.sz, h.less, h.more⟩
set_option maxRecDepth 100000 in
set_option maxHeartbeats 8000000 in
theorem follow_any {W : World} {d p q : Nat} {G : Gh} (h : Raw W d G) (hp : p ∈ G.bs) (hq : G.qa (G.key p) = some q) (hS : Stp W) (hz : ¬ G.own d 0) (hok : ShowOK G p) (hh : Hp (dy G.tn) G.tn.length) {pd : Option Addr} {nd cd : Nat} {L : List Int} (hL : Lies kI W pd L) (hn : L.length = nd) (hout : ∀ b off, pd = some ⟨b, off, none⟩ → ¬ G.own d b) (hb : G.tn.length + nd ≤ 1000000) :
    Calls Tryd.prog 46 #[ptr d, ptr p, .slice pd nd cd] W fun e w' => e = .returned (.tuple #[]) ∧ FollowOut W w' d G p L := by
  have HH := hide h; have HP := hide hp; have HQ := hide hq; have HS := hide hS; have HZ := hide hz; have HOK := hide hok; have HL := hide hL; have HN := hide hn; have HO := hide hout; have HB := hide hb
  have hnd : nd ≤ 1000000 := by omega
  have HHP := hide hh
  unfold ptr
  clear h hp hq hS hz hok hL hn hout hb hh
  go_enter Tryd.func46, Tryd.ntmps46
  go_wp2_with fail
  go_loopw [10] (fun v10 wr => ∃ (j : Nat), v10 = .int .i64 j ∧ j ≤ nd ∧ Hid (∃ vt' H', Marks G p (L.take j) H' ∧ Next W wr d G { G with vt := vt', tn := H' })) (fun v10 _ => nd - (intOf v10).toNat)
  case atStart => exact ⟨0, rfl, by omega, G.vt, G.tn, ⟨fun x => by simp, unhide HHP, by simp⟩, Next.refl (unhide HH)⟩
  case round =>
    obtain ⟨j, rfl, hj, hrel⟩ := hrel
    obtain ⟨vt', H', hM, hN⟩ := unhide hrel
    have hd5 : wr.cell? ⟨d, 5, none⟩ = some (.int .i64 G.gone) := by rw [cell_at hN.raw.ob]; rfl
    have hzr : wr.heap[0]? = W.heap[0]? := hN.fr.block 0 (unhide HS).lt (unhide HZ)
    by_cases hlt : j < nd
    · have hjl : j < L.length := by rw [unhide HN]; exact hlt
      have hLr := (unhide HL).fr hN.fr (unhide HO)
      obtain ⟨b, off, e, _, hr⟩ := hLr.2 j hjl
      obtain ⟨x, hx⟩ : ∃ x, x = L[j] := ⟨_, rfl⟩
      rw [← hx] at hr
      have hc : wr.cell? ⟨b, off + j, none⟩ = some (.int .i64 x) := by
        have := hr 0 _ rfl
        simpa [kI] using this
      have et : L.take (j + 1) = L.take j ++ [x] := by rw [List.take_succ_eq_append_getElem hjl, ← hx]
      have dA := hide (asOf_any hd5 (unhide HOK).gone)
      obtain ⟨T, hT⟩ : ∃ T, T = 1 + G.gone := ⟨_, rfl⟩
      rw [← hT] at dA
      have HT := hide hT; have HE := hide et; have HM := hide hM; have HNX := hide hN
      subst e
      clear hLr hr hx hjl hT et hM hN hrel
      by_cases h1 : x > T
      · by_cases h2 : x ≤ 3652059
        · have hlen : H'.length ≤ 1000000 := by
            have h3 := (unhide HM).2.2
            rw [List.length_take] at h3
            have := unhide HB
            have := unhide HN
            omega
          have dP := hide (push_any (unhide HNX).raw.ob (unhide HNX).raw.rt rfl hlen (unhide HM).2.1 x p)
          unfold ptr at dP
          go_wp2_with fail
          refine (unhide dA).mono ?_
          rintro e w1 ⟨rfl, hw⟩
          rw [hw]
          clear hw w1 dA
          go_wp2_with fail
          refine (unhide dP).mono ?_
          rintro e w1 ⟨rfl, hout⟩
          have HREL : Hid (∃ vt' H', Marks G p (L.take (j + 1)) H' ∧ Next W w1 d G { G with vt := vt', tn := H' }) := by
            obtain ⟨H2, hm2, ht2⟩ := hout
            obtain ⟨vt2, hn2⟩ := (unhide HNX).raw.turns ht2
            refine ⟨vt2, H2, ?_, (unhide HNX).trans hn2⟩
            rw [unhide HE]
            exact (unhide HM).push (by rw [← unhide HT]; exact ⟨h1, h2⟩) hm2 ht2.len (by rw [ht2.len]; exact ht2.hp)
          clear hout dP
          go_wp2_with fail
          exact ⟨⟨j + 1, by simp, by omega, unhide HREL⟩, by simp [intOf]; omega⟩
        · have HREL : Hid (∃ vt' H', Marks G p (L.take (j + 1)) H' ∧ Next W wr d G { G with vt := vt', tn := H' }) := ⟨vt', H', by rw [unhide HE]; exact (unhide HM).skip (fun h => h2 h.2), unhide HNX⟩
          go_wp2_with fail
          refine (unhide dA).mono ?_
          rintro e w1 ⟨rfl, hw⟩
          rw [hw]
          clear hw w1 dA
          go_wp2_with fail
          exact ⟨⟨j + 1, by simp, by omega, unhide HREL⟩, by simp [intOf]; omega⟩
      · have HREL : Hid (∃ vt' H', Marks G p (L.take (j + 1)) H' ∧ Next W wr d G { G with vt := vt', tn := H' }) := ⟨vt', H', by rw [unhide HE]; exact (unhide HM).skip (fun h => h1 (by rw [unhide HT]; exact h.1)), unhide HNX⟩
        go_wp2_with fail
        refine (unhide dA).mono ?_
        rintro e w1 ⟨rfl, hw⟩
        rw [hw]
        clear hw w1 dA
        go_wp2_with fail
        exact ⟨⟨j + 1, by simp, by omega, unhide HREL⟩, by simp [intOf]; omega⟩
    · have hjn : j = nd := by omega
      subst hjn
      have et : L.take j = L := List.take_of_length_le (by rw [unhide HN]; omega)
      rw [et] at hM
      have dS := hide (show_any hN.raw (unhide HP) (unhide HQ) ((unhide HS).keep hzr) (fun hx => (hN.own 0 hx).elim (unhide HZ) (fun h => by have := (unhide HS).lt; omega)) ((unhide HOK).turns vt' H'))
      unfold ptr at dS
      have HM := hide hM; have HNX := hide hN
      clear hM hN et hrel hd5
      go_wp2_with fail
      refine (unhide dS).mono ?_
      rintro e w1 ⟨rfl, hnx⟩
      have HF : Hid (FollowOut W w1 d G p L) := ⟨vt', H', unhide HM, (unhide HNX).trans hnx⟩
      clear hnx dS
      go_wp2_with fail
      go_end0
      exact ⟨rfl, unhide HF⟩
end Go.Proofs.YtildpgfhahmgmaaDoor
