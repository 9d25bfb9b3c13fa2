import Derived.Test.YtmgnlgobkkfjhaaGreatDoorW33
/- daily: plays (5). -/
namespace Go.Proofs.YtmgnlgobkkfjhaaGreatDoor.Kg
open Go Go.RowKit Go.Shelf Go.ChangeShapes Go.WideShapes Go.ChangeAt Go.Maps
set_option linter.unusedVariables false
set_option linter.unusedSimpArgs false
set_option maxRecDepth 100000
set_option maxHeartbeats 8000000
theorem book_cells : ∀ j, 1 ≤ j → j ≤ 20 → (#[.int .i64 0, .slice none 0 0, .slice none 0 0, .slice none 0 0, .slice none 0 0, .slice none 0 0, .slice none 0 0, .slice none 0 0, .slice none 0 0, .slice none 0 0, .slice none 0 0, .slice none 0 0, .slice none 0 0, .slice none 0 0, .slice none 0 0, .slice none 0 0, .slice none 0 0, .slice none 0 0, .slice none 0 0, .slice none 0 0, .slice none 0 0] : Array Value)[j]? = some (.slice none 0 0) := fun j h1 h2 => by
    match j, h1, h2 with
    | 1, _, _ => rfl
    | 2, _, _ => rfl
    | 3, _, _ => rfl
    | 4, _, _ => rfl
    | 5, _, _ => rfl
    | 6, _, _ => rfl
    | 7, _, _ => rfl
    | 8, _, _ => rfl
    | 9, _, _ => rfl
    | 10, _, _ => rfl
    | 11, _, _ => rfl
    | 12, _, _ => rfl
    | 13, _, _ => rfl
    | 14, _, _ => rfl
    | 15, _, _ => rfl
    | 16, _, _ => rfl
    | 17, _, _ => rfl
    | 18, _, _ => rfl
    | 19, _, _ => rfl
    | 20, _, _ => rfl
    | 0, h, _ => exact absurd h (by decide)
    | n + 21, _, h => exact absurd h (by omega)
theorem st_start {W1 w8 w11 : World} {ba bb d1 r1 d2 r2 M : Nat} {G : Nat → Prop} (hP : Pw W1) (hb8 : Below W1.heap.size W1 w8) (hb11 : Below w8.heap.size w8 w11) (xa : w11.heap[ba]? = some (.cells #[.pointer (some ⟨d1, 0, none⟩), .pointer (some ⟨r1, 0, none⟩)] 42 (0, 0))) (xb : w11.heap[bb]? = some (.cells #[.pointer (some ⟨d2, 0, none⟩), .pointer (some ⟨r2, 0, none⟩)] 42 (0, 0))) (hl : w8.heap.size ≤ ba ∧ w8.heap.size ≤ bb ∧ w11.heap.size = bb + 1 ∧ ba < bb) (hT : Two w11 d1 r1 d2 r2 M G) (hG : ∀ q, G q → W1.heap.size ≤ q ∧ q < w8.heap.size) : St W1 (w11.alloc (.cells #[.int .i64 0, .slice none 0 0, .slice none 0 0, .slice none 0 0, .slice none 0 0, .slice none 0 0, .slice none 0 0, .slice none 0 0, .slice none 0 0, .slice none 0 0, .slice none 0 0, .slice none 0 0, .slice none 0 0, .slice none 0 0, .slice none 0 0, .slice none 0 0, .slice none 0 0, .slice none 0 0, .slice none 0 0, .slice none 0 0, .slice none 0 0] 65)) w11.heap.size ba bb d1 r1 d2 r2 M := by
  have hz8 := hb8.size
  have hz11 := hb11.size
  have h1 := hP.lt
  have hbel : Below W1.heap.size W1 w11 := hb8.trans (hb11.mono hb8.size)
  have hba : Below w11.heap.size w11 (w11.alloc (.cells #[.int .i64 0, .slice none 0 0, .slice none 0 0, .slice none 0 0, .slice none 0 0, .slice none 0 0, .slice none 0 0, .slice none 0 0, .slice none 0 0, .slice none 0 0, .slice none 0 0, .slice none 0 0, .slice none 0 0, .slice none 0 0, .slice none 0 0, .slice none 0 0, .slice none 0 0, .slice none 0 0, .slice none 0 0, .slice none 0 0, .slice none 0 0] 65)) := bal (Below.refl _ _) _
  have hbel2 := hbel.trans (hba.mono hbel.size)
  have hx : (w11.alloc (.cells #[.int .i64 0, .slice none 0 0, .slice none 0 0, .slice none 0 0, .slice none 0 0, .slice none 0 0, .slice none 0 0, .slice none 0 0, .slice none 0 0, .slice none 0 0, .slice none 0 0, .slice none 0 0, .slice none 0 0, .slice none 0 0, .slice none 0 0, .slice none 0 0, .slice none 0 0, .slice none 0 0, .slice none 0 0, .slice none 0 0, .slice none 0 0] 65)).heap[w11.heap.size]? = some (.cells #[.int .i64 0, .slice none 0 0, .slice none 0 0, .slice none 0 0, .slice none 0 0, .slice none 0 0, .slice none 0 0, .slice none 0 0, .slice none 0 0, .slice none 0 0, .slice none 0 0, .slice none 0 0, .slice none 0 0, .slice none 0 0, .slice none 0 0, .slice none 0 0, .slice none 0 0, .slice none 0 0, .slice none 0 0, .slice none 0 0, .slice none 0 0] 65 (0, 0)) := heap_new _ _
  refine ⟨hbel2, h1, ⟨fun _ => False, G, kb_new (by rw [cell_at hx]; rfl) (fun j a b => by rw [cell_at hx]; exact book_cells j a b) (fun i => froz_at hx) (hP.below hbel2) (by omega), hT.keep (by simp) (fun q hq => hba.block q (by have := hG q hq; omega)), fun q h => h.elim, fun q hq => ?_⟩, (hba.block ba (by omega)).trans xa, (hba.block bb (by omega)).trans xb, ⟨by omega, by omega, by omega⟩, ⟨by omega, by omega⟩⟩
  have := hG q hq
  exact ⟨this.1, by omega, by omega, by omega, fun h => h⟩
attribute [local go_sem ↓] ld42_is st42_is ld68_is st38_is
theorem rnew_rd (W : World) : Calls Tryz.prog 11 #[] W fun e w' => e = .returned (.pointer (some ⟨W.heap.size, 0, none⟩)) ∧ Rd w' W.heap.size (fun q => q = W.heap.size) [] ∧ Below W.heap.size W w' := by
  refine (rnew_any W).mono ?_
  rintro e w' ⟨rfl, rfl⟩
  exact ⟨rfl, Rd.new W, bal (Below.refl _ _) _⟩
/-- the day that lists are written over with -/
def zq : Dq := ⟨⟨#[90]⟩, 5, 12345, 12345⟩
structure Oz (a b : World) (g M k : Nat) : Prop where
  ow : Ow a b g M
  z : ∀ j, j < k → b.rangeAt g (j * 4) zq.vals
theorem Oz.step {a b : World} {g M k : Nat} (h : Oz a b g M k) (hk : k < M) : Oz a (b.setCells g (k * 4) [.string ⟨#[90]⟩, .int .i64 5, .int .i64 12345, .int .i64 12345]) g M (k + 1) := by
  refine ⟨h.ow.step _ _, fun j hj => ?_⟩
  by_cases e : j = k
  · subst e
    exact World.rangeAt_setCells_same b g (j * 4) zq.vals (fun i hi => h.ow.th j hk i hi)
  · exact World.rangeAt_setCells_apart (h.z j (by omega)) g (k * 4) _ (.inr (.inl (by have h1 : zq.vals.length = 4 := rfl; have h2 : ([.string ⟨#[90]⟩, .int .i64 5, .int .i64 12345, .int .i64 12345] : List Value).length = 4 := rfl; omega)))
theorem Oz.lies {a b : World} {g M k n : Nat} (h : Oz a b g M k) (hn : n ≤ k) (hg : g < b.heap.size) : Lies kQ b (some ⟨g, 0, none⟩) (List.replicate n zq) := by
  refine ⟨(fun h => by cases h), fun j hj => ⟨g, 0, rfl, hg, ?_⟩⟩
  rw [List.length_replicate] at hj
  rw [List.getElem_replicate, Nat.zero_add]
  exact h.z j (by omega)
theorem smz (n : Nat) (hn : n ≤ 1000000) : SmQ (List.replicate n zq) :=
  ⟨by rw [List.length_replicate]; exact hn, fun x hx => by rw [(List.mem_replicate.1 hx).2]; decide, fun x hx => by rw [(List.mem_replicate.1 hx).2]; decide⟩
/-- what both Froms answer of a list -/
def AgZ (X : List Dq) (c : Int) (b : Bool) : Prop := (Good X ∧ c = 0 ∧ b = false) ∨ (¬ Good X ∧ c = 80 ∧ b = true)
theorem agz (X : List Dq) : ∃ c b, AgZ X c b := by
  by_cases h : Good X
  · exact ⟨0, false, .inl ⟨h, rfl, rfl⟩⟩
  · exact ⟨80, true, .inr ⟨h, rfl, rfl⟩⟩
theorem pfrom_z {W : World} {p : Option Addr} {c : Nat} {X : List Dq} (hL : Lies kQ W p X) (hS : SmQ X) {cZ : Int} {bZ : Bool} (h : AgZ X cZ bZ) : Calls Tryz.prog 7 #[.slice p X.length c] W fun e w' => ∃ gp, e = .returned (.tuple #[.pointer gp, .int .i64 cZ]) ∧ gp.isNone = bZ ∧ Below W.heap.size W w' := by
  refine (pfrom_any (c := c) hL hS).mono ?_
  rintro e w' ⟨hb, (⟨h1, rfl⟩ | ⟨h1, d, Q, rfl, _⟩)⟩
  · rcases h with ⟨h, _⟩ | ⟨_, rfl, rfl⟩
    · exact absurd h h1
    · exact ⟨none, rfl, rfl, hb⟩
  · rcases h with ⟨_, rfl, rfl⟩ | ⟨h, _⟩
    · exact ⟨_, rfl, rfl, hb⟩
    · exact absurd h1 h
theorem rfrom_z {W : World} {p : Option Addr} {c : Nat} {X : List Dq} (hL : Lies kQ W p X) (hS : SmQ X) {cZ : Int} {bZ : Bool} (h : AgZ X cZ bZ) : Calls Tryz.prog 8 #[.slice p X.length c] W fun e w' => ∃ gp, e = .returned (.tuple #[.pointer gp, .int .i64 cZ]) ∧ Below W.heap.size W w' := by
  refine (rfrom_any (c := c) hL hS).mono ?_
  rintro e w' ⟨hb, (⟨h1, rfl⟩ | ⟨h1, rfl, _⟩)⟩
  · rcases h with ⟨h, _⟩ | ⟨_, rfl, rfl⟩
    · exact absurd h h1
    · exact ⟨none, rfl, hb⟩
  · rcases h with ⟨_, rfl, rfl⟩ | ⟨h, _⟩
    · exact ⟨_, rfl, hb⟩
    · exact absurd h1 h
theorem plays_any {W : World} (hP : Pw W) {pX pA : Option Addr} {cX cA : Nat} {X : List Dq} {A : List ActV} (hX0 : pX = none → cX = 0) (hLX : Lies kQ W pX X) (hXo : ∀ y ∈ X, -9223372036854775808 ≤ y.chg ∧ y.chg ≤ 9223372036854775807) (hA : ActsIn W pA A) (hAo : ∀ a ∈ A, ActOk W a) (hsum : (X.map wDq).sum + (A.map wAc).sum ≤ 1048576) (lk : Bool) :
    Calls Tryz.prog 5 #[.agg #[.slice pX X.length cX, .slice pA A.length cA], .bool lk] W fun e w' => e = .returned (.bool true) ∧ Below W.heap.size W w' := by
  obtain ⟨nX, hnX⟩ : ∃ n, n = X.length := ⟨_, rfl⟩
  obtain ⟨nA, hnA⟩ : ∃ n, n = A.length := ⟨_, rfl⟩
  have hmX : mz (X.map qR) = (X.map wDq).sum := mz_qR X
  have hwl := wq_len X
  have hSX : SmQ X := ⟨by omega, fun x hx => by have := wq_mem hx; omega, hXo⟩
  have hnXb : nX ≤ 1000000 := by omega
  have hnAb : nA ≤ 1048576 := by
    have h1 : ∀ L : List ActV, L.length ≤ (L.map wAc).sum := fun L => by
      induction L with
      | nil => simp
      | cons x L ih => simp only [List.length_cons, List.map_cons, List.sum_cons]; unfold wAc at ih ⊢; omega
    have := h1 A
    omega
  have HSUM : Hid (mz (X.map qR) + (A.map wAc).sum ≤ 1048576) := by rw [hmX]; exact hsum
  obtain ⟨W1, hW1⟩ : ∃ W1, W1 = W.alloc (.cells #[.slice pX nX cX, .slice pA nA cA] 25) := ⟨_, rfl⟩
  obtain ⟨bP, hbP⟩ : ∃ b, b = W.heap.size := ⟨_, rfl⟩
  have hbW : Below W.heap.size W W1 := by rw [hW1]; exact bal (Below.refl _ _) _
  have hxP : W1.heap[bP]? = some (.cells #[.slice pX nX cX, .slice pA nA cA] 25 (0, 0)) := by rw [hW1, hbP]; exact heap_new _ _
  have hbPl : bP < W1.heap.size := (Array.getElem?_eq_some_iff.1 hxP).1
  have hP1 := hP.below hbW
  have g0 : W1.cell? ⟨bP, 0, none⟩ = some (.slice pX nX cX) := by rw [cell_at hxP]; rfl
  have d6 := hide (roomQ X pX nX cX hnX.symm hX0 (by omega) W1 hP1 (hLX.below hbW))
  have HLX := hide hLX; have HXO := hide hXo; have HACT := hide hA; have HAOK := hide hAo; have HNX := hide hnX; have HNA := hide hnA; have HSX := hide hSX; have HBW1 := hide hbW; have HXP := hide hxP; have HBPL := hide hbPl; have HP1 := hide hP1
  have HBP := hide hbP
  rw [← hnX, ← hnA]
  clear hP hLX hXo hA hwl hAo hsum hnX hnA hmX hSX hbW hxP hbPl hP1 hX0
  go_enter Tryz.func5, Tryz.ntmps5
  go_upto_region 1 with fail
  rw [← hW1]
  rw [← hbP]
  clear hW1 hbP
  go_upto_region 2 with (first | (go_at_call 6; refine (unhide d6).mono ?_; rintro e w2 ⟨g, c2, rfl, hrow2, hb2⟩))
  have hll : (X ++ mks zQ 700000 64).length = nX + 64 := by rw [List.length_append, mks_len, ← unhide HNX]
  have hLG2 : Lies kQ w2 (some ⟨g, 0, none⟩) (X ++ mks zQ 700000 64) := own_lies kQ_ok hll hrow2
  have hLP2 : Lies kQ w2 (some ⟨g, 0, none⟩) X := ⟨fun h => (by cases h), fun k hk => by
    obtain ⟨b, off, e, hlt, hr⟩ := hLG2.2 k (by rw [List.length_append]; omega)
    rw [List.getElem_append_left hk] at hr
    exact ⟨b, off, e, hlt, hr⟩⟩
  obtain ⟨_, _, e2', _, hp2⟩ := row_slice hrow2
  have hgc : nX + 64 ≤ c2 := by
    injection e2' with e1 e2 e3
    have := hp2 _ e1.symm
    omega
  have hgW : W1.heap.size ≤ g := (row_block hrow2 rfl).1
  have hg2 : g < w2.heap.size := (row_block hrow2 rfl).2.1
  have d7 := hide (pfrom_any (c := c2) hLP2 (unhide HSX))
  rw [← unhide HNX] at d7
  have q2 : w2.cell? ⟨bP, 0, none⟩ = some (.slice pX nX cX) := by rw [World.cell?_of_block (hb2.block bP (unhide HBPL)), cell_at (unhide HXP)]; rfl
  have hN0 : (0 : Int) ≤ (nX : Int) := by omega
  have hNc : (nX : Int) ≤ (c2 : Int) := by omega
  have hNc' : nX ≤ c2 := by omega
  have HB2 := hide hb2; have HROW2 := hide hrow2; have HLG2 := hide hLG2; have HGW := hide hgW; have HG2 := hide hg2
  clear hb2 hrow2 hll hLG2 hLP2 hp2 e2' hgc hgW hg2 g0 d6
  by_cases hG : Good X
  · have d7g : Hid (Calls Tryz.prog 7 #[.slice (some ⟨g, 0, none⟩) nX c2] w2 fun e w' => ∃ d Q, e = .returned (.tuple #[.pointer (some ⟨d, 0, none⟩), .int .i64 0]) ∧ Vq w' d Q (X.map qR) ∧ (∀ k, Q k → w2.heap.size ≤ k) ∧ Below w2.heap.size w2 w') := (unhide d7).mono (fun e w' h => by
      obtain ⟨hb, (⟨hno, _⟩ | ⟨_, d, Q, he, hv, hk⟩)⟩ := h
      · exact absurd hG hno
      · exact ⟨d, Q, he, hv, hk, hb⟩)
    clear d7
    go_upto_region 3 with (first | (go_at_call 7; refine (unhide d7g).mono ?_; rintro e w3 ⟨d2, Q, rfl, hV3, hnew3, hb3⟩))
    have hbW3 : Below W1.heap.size W1 w3 := (unhide HB2).trans (hb3.mono (unhide HB2).size)
    have d8g : Hid (Calls Tryz.prog 8 #[.slice pX nX cX] w3 fun e w' => ∃ d S, e = .returned (.tuple #[.pointer (some ⟨d, 0, none⟩), .int .i64 0]) ∧ Rd w' d S (X.map qR) ∧ (∀ q, S q → w3.heap.size ≤ q) ∧ Below w3.heap.size w3 w') := by
      have h8 := rfrom_any (c := cX) (((unhide HLX).below (unhide HBW1)).below hbW3) (unhide HSX)
      rw [← unhide HNX] at h8
      refine h8.mono (fun e w' h => ?_)
      obtain ⟨hb, (⟨hno, _⟩ | ⟨_, he, S, hr, hk⟩)⟩ := h
      · exact absurd hG hno
      · exact ⟨_, S, he, hr, hk, hb⟩
    have q3 : w3.cell? ⟨bP, 0, none⟩ = some (.slice pX nX cX) := by rw [World.cell?_of_block (hbW3.block bP (unhide HBPL)), cell_at (unhide HXP)]; rfl
    have HV3 := hide hV3; have HNEW3 := hide hnew3; have HB3 := hide hb3; have HBW3 := hide hbW3; have HG := hide hG
    clear hV3 hnew3 hb3 hbW3 hG d7g q2
    go_upto_region 4 with (first | (go_at_call 8; refine (unhide d8g).mono ?_; rintro e w4 ⟨r2, S, rfl, hR4, hS4, hb4⟩))
    have hbW4 : Below W1.heap.size W1 w4 := (unhide HBW3).trans (hb4.mono (unhide HBW3).size)
    have hTw4 : Tw w4 d2 r2 (fun q => Q q ∨ S q) (X.map qR) := ⟨⟨Q, S, (unhide HV3).below hb4, hR4, fun k hk => .inl hk, fun k hk => .inr hk, fun k hk hs => by
      have h1 := (unhide HV3).lt k hk
      have h2 := hS4 k hs
      omega⟩, fun q hq => by
      rcases hq with hq | hq
      · exact Nat.lt_of_lt_of_le ((unhide HV3).lt q hq) hb4.size
      · exact hR4.lt q hq⟩
    have hF2 : ∀ q, (Q q ∨ S q) → w2.heap.size ≤ q := fun q hq => by
      rcases hq with hq | hq
      · exact unhide HNEW3 q hq
      · exact Nat.le_trans (unhide HB3).size (hS4 q hq)
    obtain ⟨F2, hF2e⟩ : ∃ F2, F2 = fun q => Q q ∨ S q := ⟨_, rfl⟩
    rw [← hF2e] at hTw4
    have HF2 : Hid (∀ q, F2 q → w2.heap.size ≤ q) := by rw [hF2e]; exact hF2
    have HTW4 := hide hTw4
    have q4 : w4.cell? ⟨bP, 0, none⟩ = some (.slice pX nX cX) := by rw [World.cell?_of_block (hbW4.block bP (unhide HBPL)), cell_at (unhide HXP)]; rfl
    have hb24 : Below w2.heap.size w2 w4 := (unhide HB3).trans (hb4.mono (unhide HB3).size)
    have d9 := hide (keptQ X pX (some ⟨g, 0, none⟩) nX cX c2 (unhide HNX).symm (by omega) w4 ((unhide HP1).below hbW4) (((unhide HLX).below (unhide HBW1)).below hbW4) ((unhide HLG2).below hb24))
    have HZ24 := hide hb24.size
    have row4 := row_keep (unhide HROW2) (W' := w4) (fun q hq => hb24.block q (row_block (unhide HROW2) hq).2.1)
    have HROW4 := hide row4; have HBW4 := hide hbW4
    clear hTw4 hF2 hF2e hR4 hS4 hb4 hb24 row4 d8g q3
    go_upto_region 6 with (first | (go_at_call 9; refine (unhide d9).mono ?_; rintro e w5 ⟨rfl, hb5⟩))
    have row5 := row_keep (unhide HROW4) (W' := w5) (fun q hq => hb5.block q (row_block (unhide HROW4) hq).2.1)
    have HOW : Hid (Oz w5 w5 g (nX + 64) 0) := ⟨⟨rfl, rfl, rfl, rfl, fun _ _ => rfl, fun k hk => own_there kQ_ok row5 hk⟩, fun j hj => by omega⟩
    have HB5 := hide hb5
    have HBW5 := hide ((unhide HBW4).trans (hb5.mono (unhide HBW4).size))
    have HZ25 : Hid (w2.heap.size ≤ w5.heap.size) := Nat.le_trans (unhide HZ24) hb5.size
    clear row5 hb5 d9 q4
    go_loopw [11] (fun v11 wr => ∃ (k : Nat), v11 = .int .i64 k ∧ k ≤ nX + 64 ∧ Hid (Oz w5 wr g (nX + 64) k)) (fun v11 _ => nX + 64 - (intOf v11).toNat)
    case atStart => exact ⟨0, rfl, by omega, unhide HOW⟩
    obtain ⟨k, rfl, hk, hrel⟩ := hrel
    rcases Nat.lt_or_ge k (nX + 64) with hlt | hge
    · have hI : (k : Int) < (nX : Int) + 64 := by omega
      have hI' : (k : Int) < ((nX + 64 : Nat) : Int) := by omega
      have hI0 : (0 : Int) ≤ (k : Int) := by omega
      have hst := run_st38 ((unhide hrel).ow.th k hlt)
      have HST := hide ((unhide hrel).step hlt)
      clear hrel
      go_wp2_with fail
      exact ⟨⟨k + 1, by go_num, by omega, unhide HST⟩, by simp [intOf]; omega⟩
    have hI : ¬ (k : Int) < (nX : Int) + 64 := by omega
    have hI' : ¬ (k : Int) < ((nX + 64 : Nat) : Int) := by omega
    obtain ⟨wz, hwz⟩ : ∃ w, w = wr := ⟨_, rfl⟩
    subst hwz
    have hOw := (unhide hrel).ow
    have hgz : g < wz.heap.size := by
      rw [hOw.size]
      exact Nat.lt_of_lt_of_le (unhide HG2) (unhide HZ25)
    have hbz : Below W1.heap.size W1 wz := hOw.bel (unhide HBW5) (unhide HGW) (Nat.le_refl _)
    have hLZ := (unhide hrel).lies (n := nX) (by omega) hgz
    obtain ⟨cZ, bZ, hAZ⟩ := agz (List.replicate nX zq)
    have d7z := pfrom_z (c := c2) hLZ (smz nX (by omega)) hAZ
    rw [List.length_replicate] at d7z
    have D7Z := hide d7z
    have qz : wz.cell? ⟨bP, 0, none⟩ = some (.slice pX nX cX) := by rw [World.cell?_of_block (hbz.block bP (unhide HBPL)), cell_at (unhide HXP)]; rfl
    have hbb1 : (cZ != 0) = bZ := by rcases hAZ with ⟨_, h1, h2⟩ | ⟨_, h1, h2⟩ <;> rw [h1, h2] <;> rfl
    have hbb2 : (cZ == 0) = !bZ := by rcases hAZ with ⟨_, h1, h2⟩ | ⟨_, h1, h2⟩ <;> rw [h1, h2] <;> rfl
    have HLZ := hide hLZ; have HAZ := hide hAZ; have HBZ := hide hbz
    have HTWZ := hide (((unhide HTW4).below (unhide HB5)).keep (by rw [hOw.size]; exact Nat.le_refl _) (fun q hq => hOw.blk q (fun e => by have := unhide HF2 q hq; have := unhide HG2; omega)))
    clear hrel hOw hgz hbz hLZ hAZ d7z
    go_upto_region 10 with (first | (go_at_call 7; refine (unhide D7Z).mono ?_; rintro e wy ⟨gp, rfl, hgp, hby⟩))
    have hbWy : Below W1.heap.size W1 wy := (unhide HBZ).trans (hby.mono (unhide HBZ).size)
    have d8z := rfrom_z (c := c2) ((unhide HLZ).below hby) (smz nX (by omega)) (unhide HAZ)
    rw [List.length_replicate] at d8z
    have D8Z := hide d8z
    have qy : wy.cell? ⟨bP, 0, none⟩ = some (.slice pX nX cX) := by rw [World.cell?_of_block (hbWy.block bP (unhide HBPL)), cell_at (unhide HXP)]; rfl
    have HBY := hide hby; have HBWY := hide hbWy
    clear d8z D7Z qz hby hbWy
    go_upto_region 11 with (first | (go_at_call 8; refine (unhide D8Z).mono ?_; rintro e w6 ⟨gq, rfl, hb6y⟩))
    have hb6 : Below W1.heap.size W1 w6 := (unhide HBWY).trans (hb6y.mono (unhide HBWY).size)
    have hbz6 : Below wz.heap.size wz w6 := (unhide HBY).trans (hb6y.mono (unhide HBY).size)
    have HB6 := hide hb6
    have HTW6 := hide ((unhide HTWZ).below hbz6)
    clear hb6y D8Z qy hbz6
    obtain ⟨d1, hd1⟩ : ∃ d, d = w6.heap.size := ⟨_, rfl⟩
    obtain ⟨r1, hr1⟩ : ∃ r, r = w6.heap.size + 1 := ⟨_, rfl⟩
    obtain ⟨w7, hw7⟩ : ∃ w7, w7 = w6.alloc (.cells #[.map none] 80) := ⟨_, rfl⟩
    have hz7 : w7.heap.size = r1 := by rw [hw7, hr1]; simp
    have hb67 : Below w6.heap.size w6 w7 := by rw [hw7]; exact bal (Below.refl _ _) _
    have d10 := hide (new_any w6)
    rw [← hw7, ← hd1] at d10
    have d11 := hide (rnew_rd w7)
    rw [hz7] at d11
    have HTWN : Hid (∀ w8, Rd w8 r1 (fun q => q = r1) [] → Below r1 w7 w8 → Tw w8 d1 r1 (fun q => q = d1 ∨ q = r1) []) := fun w8 h1 h2 => by
      rw [hr1, hd1]
      rw [hr1] at h1 h2
      rw [hw7] at h2
      exact tw_new h1 h2
    have HD1 := hide hd1; have HR1 := hide hr1; have HZ7 := hide hz7; have HB67 := hide hb67
    clear hw7 hz7 hb67 hd1 hr1
    go_upto_region 12 with (first | (go_at_call 10; refine (unhide d10).mono ?_; rintro e wx ⟨rfl, hwx⟩; rw [hwx]; clear hwx wx) | (go_at_call 11; refine (unhide d11).mono ?_; rintro e w8 ⟨rfl, hR8, hb8⟩; have HR8 := hide hR8; have HB8 := hide hb8; clear hR8 hb8; have st8 := run_st42 (d := some ⟨d1, 0, none⟩) (r := some ⟨r1, 0, none⟩) (heap_new w8 (.cells #[.pointer none, .pointer none] 42))))
    have hd1 := unhide HD1
    have hr1 := unhide HR1
    have hTw1 := unhide HTWN w8 (unhide HR8) (unhide HB8)
    have HTW1 := hide hTw1
    have hb78 : Below w7.heap.size w7 w8 := by rw [unhide HZ7]; exact unhide HB8
    have hb68 : Below w6.heap.size w6 w8 := (unhide HB67).trans (hb78.mono (unhide HB67).size)
    have h6W := (unhide HB6).size
    have h68 := hb68.size
    obtain ⟨ba, hba⟩ : ∃ b, b = w8.heap.size := ⟨_, rfl⟩
    rw [← hba]
    rw [← hba] at st8
    obtain ⟨w9, hw9⟩ : ∃ w, w = (w8.alloc (.cells #[.pointer none, .pointer none] 42)).setCells ba 0 [.pointer (some ⟨d1, 0, none⟩), .pointer (some ⟨r1, 0, none⟩)] := ⟨_, rfl⟩
    rw [← hw9]
    have x9a : w9.heap[ba]? = some (.cells #[.pointer (some ⟨d1, 0, none⟩), .pointer (some ⟨r1, 0, none⟩)] 42 (0, 0)) := by rw [hw9]; exact heap_set2 (by rw [hba]; exact heap_new _ _)
    have hz9 : w9.heap.size = ba + 1 := by rw [hw9, setCells_size]; simp [hba]
    have hb9 : Below w8.heap.size w8 w9 := by rw [hw9]; exact below_setCs (by omega) _ _ _ _ (bal (Below.refl _ _) _)
    have c9 : w9.cell? ⟨ba, 0, none⟩ = some (.pointer (some ⟨d1, 0, none⟩)) := by rw [cell_at x9a]; rfl
    have l9 := run_ld42 x9a
    have s12 := run_st42 (d := some ⟨d1, 0, none⟩) (r := some ⟨r1, 0, none⟩) (heap_new w9 (.cells #[.pointer none, .pointer none] 42))
    obtain ⟨w10, hw10⟩ : ∃ w, w = (w9.alloc (.cells #[.pointer none, .pointer none] 42)).setCells w9.heap.size 0 [.pointer (some ⟨d1, 0, none⟩), .pointer (some ⟨r1, 0, none⟩)] := ⟨_, rfl⟩
    rw [← hw10] at s12
    have HBA := hide hba; have HZ9 := hide hz9; have HW10 := hide hw10; have HX9 := hide x9a; have HB9 := hide hb9
    clear hba hz9 hw10 x9a hb9 hw9 hd1 hr1 hb78 h6W h68 hTw1 hge hk st8
    go_upto_region 15 with fail
    have hba := unhide HBA
    have hz9 := unhide HZ9
    have hd1 := unhide HD1
    have hr1 := unhide HR1
    have h6W := (unhide HB6).size
    have h68 := hb68.size
    obtain ⟨bb, hbb⟩ : ∃ b, b = w9.heap.size := ⟨_, rfl⟩
    rw [← hbb]
    have hw10 := unhide HW10
    rw [← hbb] at hw10
    have x10b : w10.heap[bb]? = some (.cells #[.pointer (some ⟨d1, 0, none⟩), .pointer (some ⟨r1, 0, none⟩)] 42 (0, 0)) := by rw [hw10]; exact heap_set2 (by rw [hbb]; exact heap_new _ _)
    have hz10 : w10.heap.size = bb + 1 := by rw [hw10, setCells_size]; simp [hbb]
    have hb10 : Below w8.heap.size w8 w10 := by rw [hw10]; exact below_setCs (by omega) _ _ _ _ (bal (unhide HB9) _)
    have x10a : w10.heap[ba]? = some (.cells #[.pointer (some ⟨d1, 0, none⟩), .pointer (some ⟨r1, 0, none⟩)] 42 (0, 0)) := by rw [hw10, setCells_far bb (by omega), Below.heap_alloc _ _ _ (by omega)]; exact unhide HX9
    have hTw1 := unhide HTW1
    have hne : ba ≠ bb := by omega
    have hle8 : w8.heap.size ≤ bb := by omega
    clear hw10 c9 l9 s12
    have s14 := run_st42 (d := some ⟨d2, 0, none⟩) (r := some ⟨r2, 0, none⟩) x10b
    obtain ⟨w11, hw11⟩ : ∃ w, w = w10.setCells bb 0 [.pointer (some ⟨d2, 0, none⟩), .pointer (some ⟨r2, 0, none⟩)] := ⟨_, rfl⟩
    rw [← hw11] at s14
    have x11b : w11.heap[bb]? = some (.cells #[.pointer (some ⟨d2, 0, none⟩), .pointer (some ⟨r2, 0, none⟩)] 42 (0, 0)) := by rw [hw11]; exact heap_set2 x10b
    have x11a : w11.heap[ba]? = some (.cells #[.pointer (some ⟨d1, 0, none⟩), .pointer (some ⟨r1, 0, none⟩)] 42 (0, 0)) := by rw [hw11, setCells_far bb hne]; exact x10a
    have hb11 : Below w8.heap.size w8 w11 := by rw [hw11]; exact below_setCs hle8 _ _ _ _ hb10
    have HTWO : Hid (Two w11 d1 r1 d2 r2 (mz (X.map qR)) (fun q => (q = d1 ∨ q = r1) ∨ F2 q)) := by
      refine .inr ⟨_, [], F2, _, (unhide HTW1).below hb11, ((unhide HTW6).below ((hb68).trans (hb11.mono hb68.size))), by simp [mz], Nat.le_refl _, fun q hq => .inl hq, fun q hq => .inr hq, fun q hq hq2 => ?_⟩
      have h1 := (unhide HTW6).lt q hq2
      rcases hq with hq | hq <;> omega
    have HGL : Hid (∀ q, ((q = d1 ∨ q = r1) ∨ F2 q) → W1.heap.size ≤ q ∧ q < w8.heap.size) := fun q hq => by
      rcases hq with hq | hq
      · exact ⟨by rcases hq with hq | hq <;> omega, by have := (unhide HTW1).lt q hq; exact this⟩
      · exact ⟨Nat.le_trans (unhide HB2).size (unhide HF2 q hq), by have := (unhide HTW6).lt q hq; omega⟩
    have HX11 := hide x11a; have HY11 := hide x11b; have HB11 := hide hb11
    have hz11 : w11.heap.size = bb + 1 := by rw [hw11, setCells_size]; exact hz10
    have HLB : Hid (w8.heap.size ≤ ba ∧ w8.heap.size ≤ bb ∧ w11.heap.size = bb + 1 ∧ ba < bb) := ⟨by omega, hle8, hz11, by omega⟩
    have HW8 : Hid (W1.heap.size ≤ w8.heap.size) := by show _ ≤ _; omega
    have HBW8 : Hid (Below W1.heap.size W1 w8) := (unhide HB6).trans (hb68.mono (unhide HB6).size)
    clear x11a x11b hb11 x10a x10b hb10 hba hbb hz9 hz10 hz11 hd1 hr1 hne hle8 h6W h68 hw11 hb68 hTw1 hb6
    have HST : Hid (St W1 (w11.alloc (.cells #[.int .i64 0, .slice none 0 0, .slice none 0 0, .slice none 0 0, .slice none 0 0, .slice none 0 0, .slice none 0 0, .slice none 0 0, .slice none 0 0, .slice none 0 0, .slice none 0 0, .slice none 0 0, .slice none 0 0, .slice none 0 0, .slice none 0 0, .slice none 0 0, .slice none 0 0, .slice none 0 0, .slice none 0 0, .slice none 0 0, .slice none 0 0] 65)) w11.heap.size ba bb d1 r1 d2 r2 (mz (X.map qR))) := st_start (unhide HP1) (unhide HBW8) (unhide HB11) (unhide HX11) (unhide HY11) (unhide HLB) (unhide HTWO) (unhide HGL)
    go_upto_region 18 with fail
    obtain ⟨w12, hw12⟩ : ∃ w, w = w11.alloc (.cells #[.int .i64 0, .slice none 0 0, .slice none 0 0, .slice none 0 0, .slice none 0 0, .slice none 0 0, .slice none 0 0, .slice none 0 0, .slice none 0 0, .slice none 0 0, .slice none 0 0, .slice none 0 0, .slice none 0 0, .slice none 0 0, .slice none 0 0, .slice none 0 0, .slice none 0 0, .slice none 0 0, .slice none 0 0, .slice none 0 0, .slice none 0 0] 65) := ⟨_, rfl⟩
    obtain ⟨bk, hbk⟩ : ∃ b, b = w11.heap.size := ⟨_, rfl⟩
    rw [← hw12, ← hbk] at HST
    rw [← hw12]
    rw [← hbk]
    clear hw12 hbk
    go_upto_region 19 with fail
    go_loopw [19] (fun v19 wr => ∃ (i : Nat), v19 = .int .i64 i ∧ i ≤ nA ∧ Hid (St W1 wr bk ba bb d1 r1 d2 r2 (mz (X.map qR) + totA A i))) (fun v19 _ => nA - (intOf v19).toNat)
    case atStart => exact ⟨0, rfl, by omega, (unhide HST).more (Nat.le_add_right _ _)⟩
    case round =>
      obtain ⟨i, rfl, hi, hrel⟩ := hrel
      have hS := unhide hrel
      have cP : wr.cell? ⟨bP, 1, none⟩ = some (.slice pA nA cA) := by rw [World.cell?_of_block (hS.bel.block bP (unhide HBPL)), cell_at (unhide HXP)]; rfl
      have hto := totA_le A i
      have hM := unhide HSUM
      by_cases hlt : i < nA ∧ i < 60
      · have h60 : (i : Int) < 60 := by omega
        have hlt := hlt.1
        have hiA : i < A.length := by rw [← unhide HNA]; exact hlt
        obtain ⟨b, off, e, hbl, hr⟩ := unhide HACT i hiA
        obtain ⟨a, ha⟩ : ∃ a, a = A[i] := ⟨_, rfl⟩
        have ham : a ∈ A := by rw [ha]; exact List.getElem_mem hiA
        have hts := totA_succ hiA
        have hw : (a.R.map wRo).sum + a.nm.size + 1 ≤ (A.map wAc).sum := mem_sum wAc ham
        have haz : mz a.R ≤ 1048576 := by rw [mz_rows]; omega
        have hnz : a.nm.size ≤ 1048576 := by omega
        rw [← ha] at hr hts
        have hok := unhide HAOK a ham
        have hr1 : W1.rangeAt b (off + i * 5) a.arr.toList := fun j u hu => keep1 (unhide HBW1) hbl (hr j u hu)
        have hbl1 : b < W1.heap.size := Nat.lt_of_lt_of_le hbl (unhide HBW1).size
        have hI : (i : Int) < (nA : Int) := by omega
        have hI0 : (0 : Int) ≤ (i : Int) := by omega
        have kw : wr.cell? ⟨b, off + i * 5, none⟩ = some (.int .i64 a.who) := keep1 hS.bel hbl1 (hr1 0 _ rfl)
        -- the box of the pair
        have z0 : (wr.alloc (.cells #[.pointer none, .pointer none] 42)).heap[wr.heap.size]? = some (.cells #[.pointer none, .pointer none] 42 (0, 0)) := heap_new _ _
        have lA := run_ld42 hS.xa
        have s1 := run_st42 (d := some ⟨d1, 0, none⟩) (r := some ⟨r1, 0, none⟩) z0
        obtain ⟨Z1, hZ1⟩ : ∃ Z1, Z1 = (wr.alloc (.cells #[.pointer none, .pointer none] 42)).setCells wr.heap.size 0 [.pointer (some ⟨d1, 0, none⟩), .pointer (some ⟨r1, 0, none⟩)] := ⟨_, rfl⟩
        rw [← hZ1] at s1
        have z1 : Z1.heap[wr.heap.size]? = some (.cells #[.pointer (some ⟨d1, 0, none⟩), .pointer (some ⟨r1, 0, none⟩)] 42 (0, 0)) := by rw [hZ1]; exact heap_set2 z0
        have bZ1 : Below wr.heap.size wr Z1 := by rw [hZ1]; exact below_setCs (Nat.le_refl _) _ _ _ _ (bal (Below.refl _ _) _)
        have lB := run_ld42 (hS.below bZ1).xb
        have s2 := run_st42 (d := some ⟨d2, 0, none⟩) (r := some ⟨r2, 0, none⟩) z1
        obtain ⟨Z2, hZ2⟩ : ∃ Z2, Z2 = Z1.setCells wr.heap.size 0 [.pointer (some ⟨d2, 0, none⟩), .pointer (some ⟨r2, 0, none⟩)] := ⟨_, rfl⟩
        rw [← hZ2] at s2
        have z2 : Z2.heap[wr.heap.size]? = some (.cells #[.pointer (some ⟨d2, 0, none⟩), .pointer (some ⟨r2, 0, none⟩)] 42 (0, 0)) := by rw [hZ2]; exact heap_set2 z1
        have bZ2 : Below wr.heap.size wr Z2 := by rw [hZ2]; exact below_setCs (Nat.le_refl _) _ _ _ _ bZ1
        have cP1 : Z1.cell? ⟨bP, 1, none⟩ = some (.slice pA nA cA) := by rw [World.cell?_of_block ((hS.below bZ1).bel.block bP (unhide HBPL)), cell_at (unhide HXP)]; rfl
        have kw1 : Z1.cell? ⟨b, off + i * 5, none⟩ = some (.int .i64 a.who) := keep1 (hS.below bZ1).bel hbl1 (hr1 0 _ rfl)
        -- what is told
        have HTELL : Hid (∀ (o : Bool) (Z : World), Below wr.heap.size wr Z → Calls Tryz.prog 12 #[.agg #[.pointer (some ⟨pk o d1 d2, 0, none⟩), .pointer (some ⟨pk o r1 r2, 0, none⟩)], .agg #[.int .i64 a.who, .slice a.p a.R.length a.c, .string a.nm, .int .i64 a.fr, .int .i64 a.tt]] Z fun e w' => e = .returned (.bool true) ∧ St W1 w' bk ba bb d1 r1 d2 r2 (mz (X.map qR) + totA A (i + 1)) ∧ ∀ q, wr.heap.size ≤ q → q < Z.heap.size → w'.heap[q]? = Z.heap[q]?) := fun o Z hZ => by
          refine (hS.tellZ hZ (by omega) o ⟨hok.n0, hok.li.below (unhide HBW1), hok.am⟩ haz).mono ?_
          rintro e w' ⟨h1, h2, h3⟩
          refine ⟨h1, ?_, h3⟩
          rw [hts, ← Nat.add_assoc]
          exact h2
        have HFACT : Hid (∀ Z, Below W1.heap.size W1 Z → Z.cell? ⟨bP, 1, none⟩ = some (.slice pA nA cA) ∧ (ld68 (.pointer (some ⟨b, off + i * 5, none⟩))).run Tryz.prog Z = .ok (.agg #[.int .i64 a.who, .slice a.p a.R.length a.c, .string a.nm, .int .i64 a.fr, .int .i64 a.tt]) Z) := fun Z hZ => by
          refine ⟨?_, run_ld68 (fun j u hu => keep1 hZ hbl1 (hr1 j u hu))⟩
          rw [World.cell?_of_block (hZ.block bP (unhide HBPL)), cell_at (unhide HXP)]
          rfl
        have HM1 : Hid (mz (X.map qR) + totA A (i + 1) ≤ 1048576) := by
          have := totA_le A (i + 1)
          show _ ≤ _
          omega
        have HS := hide hS; have HBZ1 := hide bZ1; have HBZ2 := hide bZ2; have HNZ := hide hnz; have Hz1 := hide z1; have Hz2 := hide z2
        subst e
        clear hrel hS hr hr1 hbl hbl1 ham ha hts hw haz hok hiA hto hM z0 z1 z2 bZ1 bZ2 hnz hZ1 hZ2
        by_cases hwho : Int.tmod a.who 2 = 0
        · go_upto_region 24 with fail
          obtain ⟨Y, hY⟩ : ∃ Y, Y = Z1.drew := ⟨_, rfl⟩
          have bY : Below wr.heap.size wr Y := by rw [hY]; exact below_drewN (unhide HBZ1) 1
          have fY := unhide HFACT Y ((unhide HS).below bY).bel
          have HYX : Hid (Y.heap[wr.heap.size]? = some (.cells #[.pointer (some ⟨d1, 0, none⟩), .pointer (some ⟨r1, 0, none⟩)] 42 (0, 0))) := by rw [hY]; exact unhide Hz1
          have HYL : Hid (wr.heap.size < Y.heap.size) := (Array.getElem?_eq_some_iff.1 (unhide HYX)).1
          have lY := run_ld42 (unhide HYX)
          have d12 : Hid (Calls Tryz.prog 12 #[.agg #[.pointer (some ⟨d1, 0, none⟩), .pointer (some ⟨r1, 0, none⟩)], .agg #[.int .i64 a.who, .slice a.p a.R.length a.c, .string a.nm, .int .i64 a.fr, .int .i64 a.tt]] Y fun e w' => e = .returned (.bool true) ∧ St W1 w' bk ba bb d1 r1 d2 r2 (mz (X.map qR) + totA A (i + 1)) ∧ ∀ q, wr.heap.size ≤ q → q < Y.heap.size → w'.heap[q]? = Y.heap[q]?) := unhide HTELL false Y bY
          refine wp_region_last (n := 7) (S := fun X => (ld42 (.pointer (some ⟨wr.heap.size, 0, none⟩))).run Tryz.prog X = .ok (.agg #[.pointer (some ⟨d1, 0, none⟩), .pointer (some ⟨r1, 0, none⟩)]) X ∧ X.cell? ⟨bP, 1, none⟩ = some (.slice (some ⟨b, off, none⟩) nA cA) ∧ (ld68 (.pointer (some ⟨b, off + i * 5, none⟩))).run Tryz.prog X = .ok (.agg #[.int .i64 a.who, .slice a.p a.R.length a.c, .string a.nm, .int .i64 a.fr, .int .i64 a.tt]) X) (by kernel_rfl) (by rw [← hY]; exact ⟨lY, fY.1, fY.2⟩) (fun hHeld => ?_)
          rw [← hY] at hHeld ⊢
          clear hY lY fY bY lA lB s1 s2 cP cP1 kw kw1
          refine tkS 0 ?_; refine tkW 1 ?_; refine tkS 2 ?_; refine tkW 3 ?_; refine tkW 4 ?_; refine tkS 5 ?_
          refine wpAnyL_one (i := 6) (by kernel_rfl) rfl (fun KK hK => ?_)
          go_simp
          refine (unhide d12).mono ?_
          rintro e wt ⟨rfl, hSt, hbox⟩
          have ft := unhide HFACT wt hSt.bel
          have lt := run_ld42 ((hbox wr.heap.size (Nat.le_refl _) (unhide HYL)).trans (unhide HYX))
          have HSt := hide hSt
          clear hSt hHeld hbox
          go_simp
          refine hK.out _ _ ⟨lt, ft.1, ft.2⟩ (fun hHeld => ?_)
          clear hK KK hHeld lt ft
          refine wpAnyL_past (i := 7) (by kernel_rfl) rfl (by kernel_rfl) (fun KK hK => ?_)
          go_simp
          refine hK.out _ _ ?_
          clear hK KK
          refine wpAnyL_done (by kernel_rfl) ?_
          cases lk with
          | false =>
            go_wp2_with fail
            exact ⟨⟨i + 1, by go_num, by omega, HSt⟩, by simp [intOf]; omega⟩
          | true =>
            go_upto_region 28 with fail
            obtain ⟨Y, hY⟩ : ∃ Y, Y = wt.drew := ⟨_, rfl⟩
            have hS6 : St W1 Y bk ba bb d1 r1 d2 r2 (mz (X.map qR) + totA A (i + 1)) := by rw [hY]; exact (unhide HSt).below (below_drewN (Below.refl _ _) 1)
            have fY := unhide HFACT Y hS6.bel
            have lY := run_ld42 hS6.xa
            have d13 : Hid (Calls Tryz.prog 13 #[.agg #[.pointer (some ⟨d1, 0, none⟩), .pointer (some ⟨r1, 0, none⟩)], .agg #[.int .i64 a.who, .slice a.p a.R.length a.c, .string a.nm, .int .i64 a.fr, .int .i64 a.tt], .pointer (some ⟨bk, 0, none⟩)] Y fun e w' => e = .returned (.bool true) ∧ St W1 w' bk ba bb d1 r1 d2 r2 (mz (X.map qR) + totA A (i + 1))) := hS6.look (unhide HM1) false a (unhide HNZ)
            refine wp_region_last (n := 8) (S := fun X => (ld42 (.pointer (some ⟨ba, 0, none⟩))).run Tryz.prog X = .ok (.agg #[.pointer (some ⟨d1, 0, none⟩), .pointer (some ⟨r1, 0, none⟩)]) X ∧ X.cell? ⟨bP, 1, none⟩ = some (.slice (some ⟨b, off, none⟩) nA cA) ∧ (ld68 (.pointer (some ⟨b, off + i * 5, none⟩))).run Tryz.prog X = .ok (.agg #[.int .i64 a.who, .slice a.p a.R.length a.c, .string a.nm, .int .i64 a.fr, .int .i64 a.tt]) X) (by kernel_rfl) (by rw [← hY]; exact ⟨lY, fY.1, fY.2⟩) (fun hHeld => ?_)
            rw [← hY] at hHeld ⊢
            clear hY lY fY hS6
            refine tkS 0 ?_; refine tkW 1 ?_; refine tkS 2 ?_; refine tkW 3 ?_; refine tkW 4 ?_; refine tkS 5 ?_; refine tkW 6 ?_
            refine wpAnyL_one (i := 7) (by kernel_rfl) rfl (fun KK hK => ?_)
            go_simp
            refine (unhide d13).mono ?_
            rintro e wu ⟨rfl, hSt⟩
            have ft := unhide HFACT wu hSt.bel
            have lt := run_ld42 hSt.xa
            have HSu := hide hSt
            clear hSt hHeld d13
            go_simp
            refine hK.out _ _ ⟨lt, ft.1, ft.2⟩ (fun hHeld => ?_)
            clear hK KK hHeld lt ft
            refine wpAnyL_past (i := 8) (by kernel_rfl) rfl (by kernel_rfl) (fun KK hK => ?_)
            go_simp
            refine hK.out _ _ ?_
            clear hK KK
            refine wpAnyL_done (by kernel_rfl) ?_
            go_upto_region 29 with fail
            obtain ⟨Y, hY⟩ : ∃ Y, Y = wu.drew := ⟨_, rfl⟩
            have hS6 : St W1 Y bk ba bb d1 r1 d2 r2 (mz (X.map qR) + totA A (i + 1)) := by rw [hY]; exact (unhide HSu).below (below_drewN (Below.refl _ _) 1)
            have fY := unhide HFACT Y hS6.bel
            have lY := run_ld42 hS6.xb
            have d13 : Hid (Calls Tryz.prog 13 #[.agg #[.pointer (some ⟨d2, 0, none⟩), .pointer (some ⟨r2, 0, none⟩)], .agg #[.int .i64 a.who, .slice a.p a.R.length a.c, .string a.nm, .int .i64 a.fr, .int .i64 a.tt], .pointer (some ⟨bk, 0, none⟩)] Y fun e w' => e = .returned (.bool true) ∧ St W1 w' bk ba bb d1 r1 d2 r2 (mz (X.map qR) + totA A (i + 1))) := hS6.look (unhide HM1) true a (unhide HNZ)
            refine wp_region_last (n := 8) (S := fun X => (ld42 (.pointer (some ⟨bb, 0, none⟩))).run Tryz.prog X = .ok (.agg #[.pointer (some ⟨d2, 0, none⟩), .pointer (some ⟨r2, 0, none⟩)]) X ∧ X.cell? ⟨bP, 1, none⟩ = some (.slice (some ⟨b, off, none⟩) nA cA) ∧ (ld68 (.pointer (some ⟨b, off + i * 5, none⟩))).run Tryz.prog X = .ok (.agg #[.int .i64 a.who, .slice a.p a.R.length a.c, .string a.nm, .int .i64 a.fr, .int .i64 a.tt]) X) (by kernel_rfl) (by rw [← hY]; exact ⟨lY, fY.1, fY.2⟩) (fun hHeld => ?_)
            rw [← hY] at hHeld ⊢
            clear hY lY fY hS6
            refine tkS 0 ?_; refine tkW 1 ?_; refine tkS 2 ?_; refine tkW 3 ?_; refine tkW 4 ?_; refine tkS 5 ?_; refine tkW 6 ?_
            refine wpAnyL_one (i := 7) (by kernel_rfl) rfl (fun KK hK => ?_)
            go_simp
            refine (unhide d13).mono ?_
            rintro e wv ⟨rfl, hSt⟩
            have ft := unhide HFACT wv hSt.bel
            have lt := run_ld42 hSt.xb
            have HSv := hide hSt
            clear hSt hHeld d13
            go_simp
            refine hK.out _ _ ⟨lt, ft.1, ft.2⟩ (fun hHeld => ?_)
            clear hK KK hHeld lt ft
            refine wpAnyL_past (i := 8) (by kernel_rfl) rfl (by kernel_rfl) (fun KK hK => ?_)
            go_simp
            refine hK.out _ _ ?_
            clear hK KK
            refine wpAnyL_done (by kernel_rfl) ?_
            go_wp2_with fail
            exact ⟨⟨i + 1, by go_num, by omega, HSv⟩, by simp [intOf]; omega⟩
        · go_upto_region 24 with fail
          obtain ⟨Y, hY⟩ : ∃ Y, Y = Z2.drew := ⟨_, rfl⟩
          have bY : Below wr.heap.size wr Y := by rw [hY]; exact below_drewN (unhide HBZ2) 1
          have fY := unhide HFACT Y ((unhide HS).below bY).bel
          have HYX : Hid (Y.heap[wr.heap.size]? = some (.cells #[.pointer (some ⟨d2, 0, none⟩), .pointer (some ⟨r2, 0, none⟩)] 42 (0, 0))) := by rw [hY]; exact unhide Hz2
          have HYL : Hid (wr.heap.size < Y.heap.size) := (Array.getElem?_eq_some_iff.1 (unhide HYX)).1
          have lY := run_ld42 (unhide HYX)
          have d12 : Hid (Calls Tryz.prog 12 #[.agg #[.pointer (some ⟨d2, 0, none⟩), .pointer (some ⟨r2, 0, none⟩)], .agg #[.int .i64 a.who, .slice a.p a.R.length a.c, .string a.nm, .int .i64 a.fr, .int .i64 a.tt]] Y fun e w' => e = .returned (.bool true) ∧ St W1 w' bk ba bb d1 r1 d2 r2 (mz (X.map qR) + totA A (i + 1)) ∧ ∀ q, wr.heap.size ≤ q → q < Y.heap.size → w'.heap[q]? = Y.heap[q]?) := unhide HTELL true Y bY
          refine wp_region_last (n := 7) (S := fun X => (ld42 (.pointer (some ⟨wr.heap.size, 0, none⟩))).run Tryz.prog X = .ok (.agg #[.pointer (some ⟨d2, 0, none⟩), .pointer (some ⟨r2, 0, none⟩)]) X ∧ X.cell? ⟨bP, 1, none⟩ = some (.slice (some ⟨b, off, none⟩) nA cA) ∧ (ld68 (.pointer (some ⟨b, off + i * 5, none⟩))).run Tryz.prog X = .ok (.agg #[.int .i64 a.who, .slice a.p a.R.length a.c, .string a.nm, .int .i64 a.fr, .int .i64 a.tt]) X) (by kernel_rfl) (by rw [← hY]; exact ⟨lY, fY.1, fY.2⟩) (fun hHeld => ?_)
          rw [← hY] at hHeld ⊢
          clear hY lY fY bY lA lB s1 s2 cP cP1 kw kw1
          refine tkS 0 ?_; refine tkW 1 ?_; refine tkS 2 ?_; refine tkW 3 ?_; refine tkW 4 ?_; refine tkS 5 ?_
          refine wpAnyL_one (i := 6) (by kernel_rfl) rfl (fun KK hK => ?_)
          go_simp
          refine (unhide d12).mono ?_
          rintro e wt ⟨rfl, hSt, hbox⟩
          have ft := unhide HFACT wt hSt.bel
          have lt := run_ld42 ((hbox wr.heap.size (Nat.le_refl _) (unhide HYL)).trans (unhide HYX))
          have HSt := hide hSt
          clear hSt hHeld hbox
          go_simp
          refine hK.out _ _ ⟨lt, ft.1, ft.2⟩ (fun hHeld => ?_)
          clear hK KK hHeld lt ft
          refine wpAnyL_past (i := 7) (by kernel_rfl) rfl (by kernel_rfl) (fun KK hK => ?_)
          go_simp
          refine hK.out _ _ ?_
          clear hK KK
          refine wpAnyL_done (by kernel_rfl) ?_
          cases lk with
          | false =>
            go_wp2_with fail
            exact ⟨⟨i + 1, by go_num, by omega, HSt⟩, by simp [intOf]; omega⟩
          | true =>
            go_upto_region 28 with fail
            obtain ⟨Y, hY⟩ : ∃ Y, Y = wt.drew := ⟨_, rfl⟩
            have hS6 : St W1 Y bk ba bb d1 r1 d2 r2 (mz (X.map qR) + totA A (i + 1)) := by rw [hY]; exact (unhide HSt).below (below_drewN (Below.refl _ _) 1)
            have fY := unhide HFACT Y hS6.bel
            have lY := run_ld42 hS6.xa
            have d13 : Hid (Calls Tryz.prog 13 #[.agg #[.pointer (some ⟨d1, 0, none⟩), .pointer (some ⟨r1, 0, none⟩)], .agg #[.int .i64 a.who, .slice a.p a.R.length a.c, .string a.nm, .int .i64 a.fr, .int .i64 a.tt], .pointer (some ⟨bk, 0, none⟩)] Y fun e w' => e = .returned (.bool true) ∧ St W1 w' bk ba bb d1 r1 d2 r2 (mz (X.map qR) + totA A (i + 1))) := hS6.look (unhide HM1) false a (unhide HNZ)
            refine wp_region_last (n := 8) (S := fun X => (ld42 (.pointer (some ⟨ba, 0, none⟩))).run Tryz.prog X = .ok (.agg #[.pointer (some ⟨d1, 0, none⟩), .pointer (some ⟨r1, 0, none⟩)]) X ∧ X.cell? ⟨bP, 1, none⟩ = some (.slice (some ⟨b, off, none⟩) nA cA) ∧ (ld68 (.pointer (some ⟨b, off + i * 5, none⟩))).run Tryz.prog X = .ok (.agg #[.int .i64 a.who, .slice a.p a.R.length a.c, .string a.nm, .int .i64 a.fr, .int .i64 a.tt]) X) (by kernel_rfl) (by rw [← hY]; exact ⟨lY, fY.1, fY.2⟩) (fun hHeld => ?_)
            rw [← hY] at hHeld ⊢
            clear hY lY fY hS6
            refine tkS 0 ?_; refine tkW 1 ?_; refine tkS 2 ?_; refine tkW 3 ?_; refine tkW 4 ?_; refine tkS 5 ?_; refine tkW 6 ?_
            refine wpAnyL_one (i := 7) (by kernel_rfl) rfl (fun KK hK => ?_)
            go_simp
            refine (unhide d13).mono ?_
            rintro e wu ⟨rfl, hSt⟩
            have ft := unhide HFACT wu hSt.bel
            have lt := run_ld42 hSt.xa
            have HSu := hide hSt
            clear hSt hHeld d13
            go_simp
            refine hK.out _ _ ⟨lt, ft.1, ft.2⟩ (fun hHeld => ?_)
            clear hK KK hHeld lt ft
            refine wpAnyL_past (i := 8) (by kernel_rfl) rfl (by kernel_rfl) (fun KK hK => ?_)
            go_simp
            refine hK.out _ _ ?_
            clear hK KK
            refine wpAnyL_done (by kernel_rfl) ?_
            go_upto_region 29 with fail
            obtain ⟨Y, hY⟩ : ∃ Y, Y = wu.drew := ⟨_, rfl⟩
            have hS6 : St W1 Y bk ba bb d1 r1 d2 r2 (mz (X.map qR) + totA A (i + 1)) := by rw [hY]; exact (unhide HSu).below (below_drewN (Below.refl _ _) 1)
            have fY := unhide HFACT Y hS6.bel
            have lY := run_ld42 hS6.xb
            have d13 : Hid (Calls Tryz.prog 13 #[.agg #[.pointer (some ⟨d2, 0, none⟩), .pointer (some ⟨r2, 0, none⟩)], .agg #[.int .i64 a.who, .slice a.p a.R.length a.c, .string a.nm, .int .i64 a.fr, .int .i64 a.tt], .pointer (some ⟨bk, 0, none⟩)] Y fun e w' => e = .returned (.bool true) ∧ St W1 w' bk ba bb d1 r1 d2 r2 (mz (X.map qR) + totA A (i + 1))) := hS6.look (unhide HM1) true a (unhide HNZ)
            refine wp_region_last (n := 8) (S := fun X => (ld42 (.pointer (some ⟨bb, 0, none⟩))).run Tryz.prog X = .ok (.agg #[.pointer (some ⟨d2, 0, none⟩), .pointer (some ⟨r2, 0, none⟩)]) X ∧ X.cell? ⟨bP, 1, none⟩ = some (.slice (some ⟨b, off, none⟩) nA cA) ∧ (ld68 (.pointer (some ⟨b, off + i * 5, none⟩))).run Tryz.prog X = .ok (.agg #[.int .i64 a.who, .slice a.p a.R.length a.c, .string a.nm, .int .i64 a.fr, .int .i64 a.tt]) X) (by kernel_rfl) (by rw [← hY]; exact ⟨lY, fY.1, fY.2⟩) (fun hHeld => ?_)
            rw [← hY] at hHeld ⊢
            clear hY lY fY hS6
            refine tkS 0 ?_; refine tkW 1 ?_; refine tkS 2 ?_; refine tkW 3 ?_; refine tkW 4 ?_; refine tkS 5 ?_; refine tkW 6 ?_
            refine wpAnyL_one (i := 7) (by kernel_rfl) rfl (fun KK hK => ?_)
            go_simp
            refine (unhide d13).mono ?_
            rintro e wv ⟨rfl, hSt⟩
            have ft := unhide HFACT wv hSt.bel
            have lt := run_ld42 hSt.xb
            have HSv := hide hSt
            clear hSt hHeld d13
            go_simp
            refine hK.out _ _ ⟨lt, ft.1, ft.2⟩ (fun hHeld => ?_)
            clear hK KK hHeld lt ft
            refine wpAnyL_past (i := 8) (by kernel_rfl) rfl (by kernel_rfl) (fun KK hK => ?_)
            go_simp
            refine hK.out _ _ ?_
            clear hK KK
            refine wpAnyL_done (by kernel_rfl) ?_
            go_wp2_with fail
            exact ⟨⟨i + 1, by go_num, by omega, HSv⟩, by simp [intOf]; omega⟩
      · by_cases hltA : i < nA
        · have hI : (i : Int) < (nA : Int) := by omega
          have h60 : ¬ (i : Int) < 60 := by omega
          have lA := run_ld42 hS.xa
          have d30 : Hid (Calls Tryz.prog 13 #[.agg #[.pointer (some ⟨d1, 0, none⟩), .pointer (some ⟨r1, 0, none⟩)], .agg #[.int .i64 0, .slice none 0 0, .string ⟨#[65]⟩, .int .i64 1, .int .i64 9], .pointer (some ⟨bk, 0, none⟩)] wr fun e w' => e = .returned (.bool true) ∧ St W1 w' bk ba bb d1 r1 d2 r2 (mz (X.map qR) + totA A i)) := hS.look (by omega) false ⟨0, none, 0, [], ⟨#[65]⟩, 1, 9⟩ (by decide)
          have HM9 : Hid (mz (X.map qR) + totA A i ≤ 1048576) := by show _ ≤ _; omega
          clear hrel hS hto hM
          go_upto_region 33 with (first | (go_at_call 13; refine (unhide d30).mono ?_; rintro e wt ⟨rfl, hSt⟩))
          have lB := run_ld42 hSt.xb
          have d31 : Hid (Calls Tryz.prog 13 #[.agg #[.pointer (some ⟨d2, 0, none⟩), .pointer (some ⟨r2, 0, none⟩)], .agg #[.int .i64 0, .slice none 0 0, .string ⟨#[65, 58, 66]⟩, .int .i64 (-1), .int .i64 4611686018427387904], .pointer (some ⟨bk, 0, none⟩)] wt fun e w' => e = .returned (.bool true) ∧ St W1 w' bk ba bb d1 r1 d2 r2 (mz (X.map qR) + totA A i)) := hSt.look (unhide HM9) true ⟨0, none, 0, [], ⟨#[65, 58, 66]⟩, -1, 4611686018427387904⟩ (by decide)
          clear hSt d30 lA cP
          go_upto_region 34 with (first | (go_at_call 13; refine (unhide d31).mono ?_; rintro e wu ⟨rfl, hSu⟩))
          have d32 : Hid (Calls Tryz.prog 14 #[.pointer (some ⟨bk, 0, none⟩)] wu fun e w' => e = .returned (.bool true) ∧ Below W.heap.size W w') := by
            obtain ⟨U, G, hk, _, hU, _⟩ := hSu.ex
            refine hk.settle.mono ?_
            rintro e w' ⟨h1, U', _, hs⟩
            have h2 := belowSep hSu.bel hs (fun q hq => (hU q hq).1)
            exact ⟨h1, (unhide HBW1).trans (h2.mono (unhide HBW1).size)⟩
          clear hSu d31 lB
          go_wp2_with (first | (go_at_call 14; refine (unhide d32).mono ?_; rintro e wv ⟨rfl, hbv⟩; have HBV := hide hbv; clear hbv))
          go_ret
          exact ⟨rfl, unhide HBV⟩
        · have hI : ¬ (i : Int) < (nA : Int) := by omega
          have lA := run_ld42 hS.xa
          have d30 : Hid (Calls Tryz.prog 13 #[.agg #[.pointer (some ⟨d1, 0, none⟩), .pointer (some ⟨r1, 0, none⟩)], .agg #[.int .i64 0, .slice none 0 0, .string ⟨#[65]⟩, .int .i64 1, .int .i64 9], .pointer (some ⟨bk, 0, none⟩)] wr fun e w' => e = .returned (.bool true) ∧ St W1 w' bk ba bb d1 r1 d2 r2 (mz (X.map qR) + totA A i)) := hS.look (by omega) false ⟨0, none, 0, [], ⟨#[65]⟩, 1, 9⟩ (by decide)
          have HM9 : Hid (mz (X.map qR) + totA A i ≤ 1048576) := by show _ ≤ _; omega
          clear hrel hS hto hM
          go_upto_region 33 with (first | (go_at_call 13; refine (unhide d30).mono ?_; rintro e wt ⟨rfl, hSt⟩))
          have lB := run_ld42 hSt.xb
          have d31 : Hid (Calls Tryz.prog 13 #[.agg #[.pointer (some ⟨d2, 0, none⟩), .pointer (some ⟨r2, 0, none⟩)], .agg #[.int .i64 0, .slice none 0 0, .string ⟨#[65, 58, 66]⟩, .int .i64 (-1), .int .i64 4611686018427387904], .pointer (some ⟨bk, 0, none⟩)] wt fun e w' => e = .returned (.bool true) ∧ St W1 w' bk ba bb d1 r1 d2 r2 (mz (X.map qR) + totA A i)) := hSt.look (unhide HM9) true ⟨0, none, 0, [], ⟨#[65, 58, 66]⟩, -1, 4611686018427387904⟩ (by decide)
          clear hSt d30 lA cP
          go_upto_region 34 with (first | (go_at_call 13; refine (unhide d31).mono ?_; rintro e wu ⟨rfl, hSu⟩))
          have d32 : Hid (Calls Tryz.prog 14 #[.pointer (some ⟨bk, 0, none⟩)] wu fun e w' => e = .returned (.bool true) ∧ Below W.heap.size W w') := by
            obtain ⟨U, G, hk, _, hU, _⟩ := hSu.ex
            refine hk.settle.mono ?_
            rintro e w' ⟨h1, U', _, hs⟩
            have h2 := belowSep hSu.bel hs (fun q hq => (hU q hq).1)
            exact ⟨h1, (unhide HBW1).trans (h2.mono (unhide HBW1).size)⟩
          clear hSu d31 lB
          go_wp2_with (first | (go_at_call 14; refine (unhide d32).mono ?_; rintro e wv ⟨rfl, hbv⟩; have HBV := hide hbv; clear hbv))
          go_ret
          exact ⟨rfl, unhide HBV⟩
  · have d7g : Hid (Calls Tryz.prog 7 #[.slice (some ⟨g, 0, none⟩) nX c2] w2 fun e w' => e = .returned (.tuple #[.pointer none, .int .i64 80]) ∧ Below w2.heap.size w2 w') := (unhide d7).mono (fun e w' h => by
      obtain ⟨hb, (⟨_, he⟩ | ⟨hg, _⟩)⟩ := h
      · exact ⟨he, hb⟩
      · exact absurd hg hG)
    clear d7
    go_upto_region 3 with (first | (go_at_call 7; refine (unhide d7g).mono ?_; rintro e w3 ⟨rfl, hb3⟩))
    have hbW3 : Below W1.heap.size W1 w3 := (unhide HB2).trans (hb3.mono (unhide HB2).size)
    have d8g : Hid (Calls Tryz.prog 8 #[.slice pX nX cX] w3 fun e w' => e = .returned (.tuple #[.pointer none, .int .i64 80]) ∧ Below w3.heap.size w3 w') := by
      have h8 := rfrom_any (c := cX) (((unhide HLX).below (unhide HBW1)).below hbW3) (unhide HSX)
      rw [← unhide HNX] at h8
      refine h8.mono (fun e w' h => ?_)
      obtain ⟨hb, (⟨_, he⟩ | ⟨hg, _⟩)⟩ := h
      · exact ⟨he, hb⟩
      · exact absurd hg hG
    have q3 : w3.cell? ⟨bP, 0, none⟩ = some (.slice pX nX cX) := by rw [World.cell?_of_block (hbW3.block bP (unhide HBPL)), cell_at (unhide HXP)]; rfl
    have HB3 := hide hb3; have HBW3 := hide hbW3
    clear hb3 hbW3 hG d7g q2
    go_upto_region 4 with (first | (go_at_call 8; refine (unhide d8g).mono ?_; rintro e w4 ⟨rfl, hb4⟩))
    have hbW4 : Below W1.heap.size W1 w4 := (unhide HBW3).trans (hb4.mono (unhide HBW3).size)
    have q4 : w4.cell? ⟨bP, 0, none⟩ = some (.slice pX nX cX) := by rw [World.cell?_of_block (hbW4.block bP (unhide HBPL)), cell_at (unhide HXP)]; rfl
    have hb24 : Below w2.heap.size w2 w4 := (unhide HB3).trans (hb4.mono (unhide HB3).size)
    have d9 := hide (keptQ X pX (some ⟨g, 0, none⟩) nX cX c2 (unhide HNX).symm (by omega) w4 ((unhide HP1).below hbW4) (((unhide HLX).below (unhide HBW1)).below hbW4) ((unhide HLG2).below hb24))
    have HZ24 := hide hb24.size
    have row4 := row_keep (unhide HROW2) (W' := w4) (fun q hq => hb24.block q (row_block (unhide HROW2) hq).2.1)
    have HROW4 := hide row4; have HBW4 := hide hbW4
    clear hb4 hb24 row4 d8g q3
    go_upto_region 6 with (first | (go_at_call 9; refine (unhide d9).mono ?_; rintro e w5 ⟨rfl, hb5⟩))
    have row5 := row_keep (unhide HROW4) (W' := w5) (fun q hq => hb5.block q (row_block (unhide HROW4) hq).2.1)
    have HOW : Hid (Oz w5 w5 g (nX + 64) 0) := ⟨⟨rfl, rfl, rfl, rfl, fun _ _ => rfl, fun k hk => own_there kQ_ok row5 hk⟩, fun j hj => by omega⟩
    have HB5 := hide hb5
    have HBW5 := hide ((unhide HBW4).trans (hb5.mono (unhide HBW4).size))
    have HZ25 : Hid (w2.heap.size ≤ w5.heap.size) := Nat.le_trans (unhide HZ24) hb5.size
    clear row5 hb5 d9 q4
    go_loopw [11] (fun v11 wr => ∃ (k : Nat), v11 = .int .i64 k ∧ k ≤ nX + 64 ∧ Hid (Oz w5 wr g (nX + 64) k)) (fun v11 _ => nX + 64 - (intOf v11).toNat)
    case atStart => exact ⟨0, rfl, by omega, unhide HOW⟩
    obtain ⟨k, rfl, hk, hrel⟩ := hrel
    rcases Nat.lt_or_ge k (nX + 64) with hlt | hge
    · have hI : (k : Int) < (nX : Int) + 64 := by omega
      have hI' : (k : Int) < ((nX + 64 : Nat) : Int) := by omega
      have hI0 : (0 : Int) ≤ (k : Int) := by omega
      have hst := run_st38 ((unhide hrel).ow.th k hlt)
      have HST := hide ((unhide hrel).step hlt)
      clear hrel
      go_wp2_with fail
      exact ⟨⟨k + 1, by go_num, by omega, unhide HST⟩, by simp [intOf]; omega⟩
    have hI : ¬ (k : Int) < (nX : Int) + 64 := by omega
    have hI' : ¬ (k : Int) < ((nX + 64 : Nat) : Int) := by omega
    obtain ⟨wz, hwz⟩ : ∃ w, w = wr := ⟨_, rfl⟩
    subst hwz
    have hOw := (unhide hrel).ow
    have hgz : g < wz.heap.size := by
      rw [hOw.size]
      exact Nat.lt_of_lt_of_le (unhide HG2) (unhide HZ25)
    have hbz : Below W1.heap.size W1 wz := hOw.bel (unhide HBW5) (unhide HGW) (Nat.le_refl _)
    have hLZ := (unhide hrel).lies (n := nX) (by omega) hgz
    obtain ⟨cZ, bZ, hAZ⟩ := agz (List.replicate nX zq)
    have d7z := pfrom_z (c := c2) hLZ (smz nX (by omega)) hAZ
    rw [List.length_replicate] at d7z
    have D7Z := hide d7z
    have qz : wz.cell? ⟨bP, 0, none⟩ = some (.slice pX nX cX) := by rw [World.cell?_of_block (hbz.block bP (unhide HBPL)), cell_at (unhide HXP)]; rfl
    have hbb1 : (cZ != 0) = bZ := by rcases hAZ with ⟨_, h1, h2⟩ | ⟨_, h1, h2⟩ <;> rw [h1, h2] <;> rfl
    have hbb2 : (cZ == 0) = !bZ := by rcases hAZ with ⟨_, h1, h2⟩ | ⟨_, h1, h2⟩ <;> rw [h1, h2] <;> rfl
    have HLZ := hide hLZ; have HAZ := hide hAZ; have HBZ := hide hbz
    clear hrel hOw hgz hbz hLZ hAZ d7z
    go_upto_region 10 with (first | (go_at_call 7; refine (unhide D7Z).mono ?_; rintro e wy ⟨gp, rfl, hgp, hby⟩))
    have hbWy : Below W1.heap.size W1 wy := (unhide HBZ).trans (hby.mono (unhide HBZ).size)
    have d8z := rfrom_z (c := c2) ((unhide HLZ).below hby) (smz nX (by omega)) (unhide HAZ)
    rw [List.length_replicate] at d8z
    have D8Z := hide d8z
    have qy : wy.cell? ⟨bP, 0, none⟩ = some (.slice pX nX cX) := by rw [World.cell?_of_block (hbWy.block bP (unhide HBPL)), cell_at (unhide HXP)]; rfl
    have HBY := hide hby; have HBWY := hide hbWy
    clear d8z D7Z qz hby hbWy
    go_upto_region 11 with (first | (go_at_call 8; refine (unhide D8Z).mono ?_; rintro e w6 ⟨gq, rfl, hb6y⟩))
    have hb6 : Below W1.heap.size W1 w6 := (unhide HBWY).trans (hb6y.mono (unhide HBWY).size)
    have hbz6 : Below wz.heap.size wz w6 := (unhide HBY).trans (hb6y.mono (unhide HBY).size)
    have HB6 := hide hb6
    clear hb6y D8Z qy hbz6
    obtain ⟨d1, hd1⟩ : ∃ d, d = w6.heap.size := ⟨_, rfl⟩
    obtain ⟨r1, hr1⟩ : ∃ r, r = w6.heap.size + 1 := ⟨_, rfl⟩
    obtain ⟨w7, hw7⟩ : ∃ w7, w7 = w6.alloc (.cells #[.map none] 80) := ⟨_, rfl⟩
    have hz7 : w7.heap.size = r1 := by rw [hw7, hr1]; simp
    have hb67 : Below w6.heap.size w6 w7 := by rw [hw7]; exact bal (Below.refl _ _) _
    have d10 := hide (new_any w6)
    rw [← hw7, ← hd1] at d10
    have d11 := hide (rnew_rd w7)
    rw [hz7] at d11
    have HTWN : Hid (∀ w8, Rd w8 r1 (fun q => q = r1) [] → Below r1 w7 w8 → Tw w8 d1 r1 (fun q => q = d1 ∨ q = r1) []) := fun w8 h1 h2 => by
      rw [hr1, hd1]
      rw [hr1] at h1 h2
      rw [hw7] at h2
      exact tw_new h1 h2
    have HD1 := hide hd1; have HR1 := hide hr1; have HZ7 := hide hz7; have HB67 := hide hb67
    clear hw7 hz7 hb67 hd1 hr1
    go_upto_region 12 with (first | (go_at_call 10; refine (unhide d10).mono ?_; rintro e wx ⟨rfl, hwx⟩; rw [hwx]; clear hwx wx) | (go_at_call 11; refine (unhide d11).mono ?_; rintro e w8 ⟨rfl, hR8, hb8⟩; have HR8 := hide hR8; have HB8 := hide hb8; clear hR8 hb8; have st8 := run_st42 (d := some ⟨d1, 0, none⟩) (r := some ⟨r1, 0, none⟩) (heap_new w8 (.cells #[.pointer none, .pointer none] 42))))
    have hd1 := unhide HD1
    have hr1 := unhide HR1
    have hTw1 := unhide HTWN w8 (unhide HR8) (unhide HB8)
    have HTW1 := hide hTw1
    have hb78 : Below w7.heap.size w7 w8 := by rw [unhide HZ7]; exact unhide HB8
    have hb68 : Below w6.heap.size w6 w8 := (unhide HB67).trans (hb78.mono (unhide HB67).size)
    have h6W := (unhide HB6).size
    have h68 := hb68.size
    obtain ⟨ba, hba⟩ : ∃ b, b = w8.heap.size := ⟨_, rfl⟩
    rw [← hba]
    rw [← hba] at st8
    obtain ⟨w9, hw9⟩ : ∃ w, w = (w8.alloc (.cells #[.pointer none, .pointer none] 42)).setCells ba 0 [.pointer (some ⟨d1, 0, none⟩), .pointer (some ⟨r1, 0, none⟩)] := ⟨_, rfl⟩
    rw [← hw9]
    have x9a : w9.heap[ba]? = some (.cells #[.pointer (some ⟨d1, 0, none⟩), .pointer (some ⟨r1, 0, none⟩)] 42 (0, 0)) := by rw [hw9]; exact heap_set2 (by rw [hba]; exact heap_new _ _)
    have hz9 : w9.heap.size = ba + 1 := by rw [hw9, setCells_size]; simp [hba]
    have hb9 : Below w8.heap.size w8 w9 := by rw [hw9]; exact below_setCs (by omega) _ _ _ _ (bal (Below.refl _ _) _)
    have c9 : w9.cell? ⟨ba, 0, none⟩ = some (.pointer (some ⟨d1, 0, none⟩)) := by rw [cell_at x9a]; rfl
    have l9 := run_ld42 x9a
    have s12 := run_st42 (d := some ⟨d1, 0, none⟩) (r := some ⟨r1, 0, none⟩) (heap_new w9 (.cells #[.pointer none, .pointer none] 42))
    obtain ⟨w10, hw10⟩ : ∃ w, w = (w9.alloc (.cells #[.pointer none, .pointer none] 42)).setCells w9.heap.size 0 [.pointer (some ⟨d1, 0, none⟩), .pointer (some ⟨r1, 0, none⟩)] := ⟨_, rfl⟩
    rw [← hw10] at s12
    have HBA := hide hba; have HZ9 := hide hz9; have HW10 := hide hw10; have HX9 := hide x9a; have HB9 := hide hb9
    clear hba hz9 hw10 x9a hb9 hw9 hd1 hr1 hb78 h6W h68 hTw1 hge hk st8
    go_upto_region 15 with fail
    have hba := unhide HBA
    have hz9 := unhide HZ9
    have hd1 := unhide HD1
    have hr1 := unhide HR1
    have h6W := (unhide HB6).size
    have h68 := hb68.size
    obtain ⟨bb, hbb⟩ : ∃ b, b = w9.heap.size := ⟨_, rfl⟩
    rw [← hbb]
    have hw10 := unhide HW10
    rw [← hbb] at hw10
    have x10b : w10.heap[bb]? = some (.cells #[.pointer (some ⟨d1, 0, none⟩), .pointer (some ⟨r1, 0, none⟩)] 42 (0, 0)) := by rw [hw10]; exact heap_set2 (by rw [hbb]; exact heap_new _ _)
    have hz10 : w10.heap.size = bb + 1 := by rw [hw10, setCells_size]; simp [hbb]
    have hb10 : Below w8.heap.size w8 w10 := by rw [hw10]; exact below_setCs (by omega) _ _ _ _ (bal (unhide HB9) _)
    have x10a : w10.heap[ba]? = some (.cells #[.pointer (some ⟨d1, 0, none⟩), .pointer (some ⟨r1, 0, none⟩)] 42 (0, 0)) := by rw [hw10, setCells_far bb (by omega), Below.heap_alloc _ _ _ (by omega)]; exact unhide HX9
    have hTw1 := unhide HTW1
    have hne : ba ≠ bb := by omega
    have hle8 : w8.heap.size ≤ bb := by omega
    clear hw10 c9 l9 s12
    have HTWO : Hid (Two w10 d1 r1 d1 r1 (mz (X.map qR)) (fun q => q = d1 ∨ q = r1)) := .inl ⟨rfl, rfl, _, [], (unhide HTW1).below hb10, by simp [mz], fun q hq => hq⟩
    have HGL : Hid (∀ q, (q = d1 ∨ q = r1) → W1.heap.size ≤ q ∧ q < w8.heap.size) := fun q hq => ⟨by rcases hq with hq | hq <;> omega, (unhide HTW1).lt q hq⟩
    have HX11 := hide x10a; have HY11 := hide x10b; have HB11 := hide hb10
    have HLB : Hid (w8.heap.size ≤ ba ∧ w8.heap.size ≤ bb ∧ w10.heap.size = bb + 1 ∧ ba < bb) := ⟨by omega, hle8, hz10, by omega⟩
    have HBW8 : Hid (Below W1.heap.size W1 w8) := (unhide HB6).trans (hb68.mono (unhide HB6).size)
    clear hb10 x10a x10b hba hbb hz9 hz10 hd1 hr1 hne hle8 h6W h68 hb68 hTw1 hb6
    have HST : Hid (St W1 (w10.alloc (.cells #[.int .i64 0, .slice none 0 0, .slice none 0 0, .slice none 0 0, .slice none 0 0, .slice none 0 0, .slice none 0 0, .slice none 0 0, .slice none 0 0, .slice none 0 0, .slice none 0 0, .slice none 0 0, .slice none 0 0, .slice none 0 0, .slice none 0 0, .slice none 0 0, .slice none 0 0, .slice none 0 0, .slice none 0 0, .slice none 0 0, .slice none 0 0] 65)) w10.heap.size ba bb d1 r1 d1 r1 (mz (X.map qR))) := st_start (unhide HP1) (unhide HBW8) (unhide HB11) (unhide HX11) (unhide HY11) (unhide HLB) (unhide HTWO) (unhide HGL)
    go_upto_region 18 with fail
    obtain ⟨w12, hw12⟩ : ∃ w, w = w10.alloc (.cells #[.int .i64 0, .slice none 0 0, .slice none 0 0, .slice none 0 0, .slice none 0 0, .slice none 0 0, .slice none 0 0, .slice none 0 0, .slice none 0 0, .slice none 0 0, .slice none 0 0, .slice none 0 0, .slice none 0 0, .slice none 0 0, .slice none 0 0, .slice none 0 0, .slice none 0 0, .slice none 0 0, .slice none 0 0, .slice none 0 0, .slice none 0 0] 65) := ⟨_, rfl⟩
    obtain ⟨bk, hbk⟩ : ∃ b, b = w10.heap.size := ⟨_, rfl⟩
    rw [← hw12, ← hbk] at HST
    rw [← hw12]
    rw [← hbk]
    clear hw12 hbk
    go_upto_region 19 with fail
    go_loopw [19] (fun v19 wr => ∃ (i : Nat), v19 = .int .i64 i ∧ i ≤ nA ∧ Hid (St W1 wr bk ba bb d1 r1 d1 r1 (mz (X.map qR) + totA A i))) (fun v19 _ => nA - (intOf v19).toNat)
    case atStart => exact ⟨0, rfl, by omega, (unhide HST).more (Nat.le_add_right _ _)⟩
    case round =>
      obtain ⟨i, rfl, hi, hrel⟩ := hrel
      have hS := unhide hrel
      have cP : wr.cell? ⟨bP, 1, none⟩ = some (.slice pA nA cA) := by rw [World.cell?_of_block (hS.bel.block bP (unhide HBPL)), cell_at (unhide HXP)]; rfl
      have hto := totA_le A i
      have hM := unhide HSUM
      by_cases hlt : i < nA ∧ i < 60
      · have h60 : (i : Int) < 60 := by omega
        have hlt := hlt.1
        have hiA : i < A.length := by rw [← unhide HNA]; exact hlt
        obtain ⟨b, off, e, hbl, hr⟩ := unhide HACT i hiA
        obtain ⟨a, ha⟩ : ∃ a, a = A[i] := ⟨_, rfl⟩
        have ham : a ∈ A := by rw [ha]; exact List.getElem_mem hiA
        have hts := totA_succ hiA
        have hw : (a.R.map wRo).sum + a.nm.size + 1 ≤ (A.map wAc).sum := mem_sum wAc ham
        have haz : mz a.R ≤ 1048576 := by rw [mz_rows]; omega
        have hnz : a.nm.size ≤ 1048576 := by omega
        rw [← ha] at hr hts
        have hok := unhide HAOK a ham
        have hr1 : W1.rangeAt b (off + i * 5) a.arr.toList := fun j u hu => keep1 (unhide HBW1) hbl (hr j u hu)
        have hbl1 : b < W1.heap.size := Nat.lt_of_lt_of_le hbl (unhide HBW1).size
        have hI : (i : Int) < (nA : Int) := by omega
        have hI0 : (0 : Int) ≤ (i : Int) := by omega
        have kw : wr.cell? ⟨b, off + i * 5, none⟩ = some (.int .i64 a.who) := keep1 hS.bel hbl1 (hr1 0 _ rfl)
        -- the box of the pair
        have z0 : (wr.alloc (.cells #[.pointer none, .pointer none] 42)).heap[wr.heap.size]? = some (.cells #[.pointer none, .pointer none] 42 (0, 0)) := heap_new _ _
        have lA := run_ld42 hS.xa
        have s1 := run_st42 (d := some ⟨d1, 0, none⟩) (r := some ⟨r1, 0, none⟩) z0
        obtain ⟨Z1, hZ1⟩ : ∃ Z1, Z1 = (wr.alloc (.cells #[.pointer none, .pointer none] 42)).setCells wr.heap.size 0 [.pointer (some ⟨d1, 0, none⟩), .pointer (some ⟨r1, 0, none⟩)] := ⟨_, rfl⟩
        rw [← hZ1] at s1
        have z1 : Z1.heap[wr.heap.size]? = some (.cells #[.pointer (some ⟨d1, 0, none⟩), .pointer (some ⟨r1, 0, none⟩)] 42 (0, 0)) := by rw [hZ1]; exact heap_set2 z0
        have bZ1 : Below wr.heap.size wr Z1 := by rw [hZ1]; exact below_setCs (Nat.le_refl _) _ _ _ _ (bal (Below.refl _ _) _)
        have lB := run_ld42 (hS.below bZ1).xb
        have s2 := run_st42 (d := some ⟨d1, 0, none⟩) (r := some ⟨r1, 0, none⟩) z1
        obtain ⟨Z2, hZ2⟩ : ∃ Z2, Z2 = Z1.setCells wr.heap.size 0 [.pointer (some ⟨d1, 0, none⟩), .pointer (some ⟨r1, 0, none⟩)] := ⟨_, rfl⟩
        rw [← hZ2] at s2
        have z2 : Z2.heap[wr.heap.size]? = some (.cells #[.pointer (some ⟨d1, 0, none⟩), .pointer (some ⟨r1, 0, none⟩)] 42 (0, 0)) := by rw [hZ2]; exact heap_set2 z1
        have bZ2 : Below wr.heap.size wr Z2 := by rw [hZ2]; exact below_setCs (Nat.le_refl _) _ _ _ _ bZ1
        have cP1 : Z1.cell? ⟨bP, 1, none⟩ = some (.slice pA nA cA) := by rw [World.cell?_of_block ((hS.below bZ1).bel.block bP (unhide HBPL)), cell_at (unhide HXP)]; rfl
        have kw1 : Z1.cell? ⟨b, off + i * 5, none⟩ = some (.int .i64 a.who) := keep1 (hS.below bZ1).bel hbl1 (hr1 0 _ rfl)
        -- what is told
        have HTELL : Hid (∀ (o : Bool) (Z : World), Below wr.heap.size wr Z → Calls Tryz.prog 12 #[.agg #[.pointer (some ⟨pk o d1 d1, 0, none⟩), .pointer (some ⟨pk o r1 r1, 0, none⟩)], .agg #[.int .i64 a.who, .slice a.p a.R.length a.c, .string a.nm, .int .i64 a.fr, .int .i64 a.tt]] Z fun e w' => e = .returned (.bool true) ∧ St W1 w' bk ba bb d1 r1 d1 r1 (mz (X.map qR) + totA A (i + 1)) ∧ ∀ q, wr.heap.size ≤ q → q < Z.heap.size → w'.heap[q]? = Z.heap[q]?) := fun o Z hZ => by
          refine (hS.tellZ hZ (by omega) o ⟨hok.n0, hok.li.below (unhide HBW1), hok.am⟩ haz).mono ?_
          rintro e w' ⟨h1, h2, h3⟩
          refine ⟨h1, ?_, h3⟩
          rw [hts, ← Nat.add_assoc]
          exact h2
        have HFACT : Hid (∀ Z, Below W1.heap.size W1 Z → Z.cell? ⟨bP, 1, none⟩ = some (.slice pA nA cA) ∧ (ld68 (.pointer (some ⟨b, off + i * 5, none⟩))).run Tryz.prog Z = .ok (.agg #[.int .i64 a.who, .slice a.p a.R.length a.c, .string a.nm, .int .i64 a.fr, .int .i64 a.tt]) Z) := fun Z hZ => by
          refine ⟨?_, run_ld68 (fun j u hu => keep1 hZ hbl1 (hr1 j u hu))⟩
          rw [World.cell?_of_block (hZ.block bP (unhide HBPL)), cell_at (unhide HXP)]
          rfl
        have HM1 : Hid (mz (X.map qR) + totA A (i + 1) ≤ 1048576) := by
          have := totA_le A (i + 1)
          show _ ≤ _
          omega
        have HS := hide hS; have HBZ1 := hide bZ1; have HBZ2 := hide bZ2; have HNZ := hide hnz; have Hz1 := hide z1; have Hz2 := hide z2
        subst e
        clear hrel hS hr hr1 hbl hbl1 ham ha hts hw haz hok hiA hto hM z0 z1 z2 bZ1 bZ2 hnz hZ1 hZ2
        by_cases hwho : Int.tmod a.who 2 = 0
        · go_upto_region 24 with fail
          obtain ⟨Y, hY⟩ : ∃ Y, Y = Z1.drew := ⟨_, rfl⟩
          have bY : Below wr.heap.size wr Y := by rw [hY]; exact below_drewN (unhide HBZ1) 1
          have fY := unhide HFACT Y ((unhide HS).below bY).bel
          have HYX : Hid (Y.heap[wr.heap.size]? = some (.cells #[.pointer (some ⟨d1, 0, none⟩), .pointer (some ⟨r1, 0, none⟩)] 42 (0, 0))) := by rw [hY]; exact unhide Hz1
          have HYL : Hid (wr.heap.size < Y.heap.size) := (Array.getElem?_eq_some_iff.1 (unhide HYX)).1
          have lY := run_ld42 (unhide HYX)
          have d12 : Hid (Calls Tryz.prog 12 #[.agg #[.pointer (some ⟨d1, 0, none⟩), .pointer (some ⟨r1, 0, none⟩)], .agg #[.int .i64 a.who, .slice a.p a.R.length a.c, .string a.nm, .int .i64 a.fr, .int .i64 a.tt]] Y fun e w' => e = .returned (.bool true) ∧ St W1 w' bk ba bb d1 r1 d1 r1 (mz (X.map qR) + totA A (i + 1)) ∧ ∀ q, wr.heap.size ≤ q → q < Y.heap.size → w'.heap[q]? = Y.heap[q]?) := unhide HTELL false Y bY
          refine wp_region_last (n := 7) (S := fun X => (ld42 (.pointer (some ⟨wr.heap.size, 0, none⟩))).run Tryz.prog X = .ok (.agg #[.pointer (some ⟨d1, 0, none⟩), .pointer (some ⟨r1, 0, none⟩)]) X ∧ X.cell? ⟨bP, 1, none⟩ = some (.slice (some ⟨b, off, none⟩) nA cA) ∧ (ld68 (.pointer (some ⟨b, off + i * 5, none⟩))).run Tryz.prog X = .ok (.agg #[.int .i64 a.who, .slice a.p a.R.length a.c, .string a.nm, .int .i64 a.fr, .int .i64 a.tt]) X) (by kernel_rfl) (by rw [← hY]; exact ⟨lY, fY.1, fY.2⟩) (fun hHeld => ?_)
          rw [← hY] at hHeld ⊢
          clear hY lY fY bY lA lB s1 s2 cP cP1 kw kw1
          refine tkS 0 ?_; refine tkW 1 ?_; refine tkS 2 ?_; refine tkW 3 ?_; refine tkW 4 ?_; refine tkS 5 ?_
          refine wpAnyL_one (i := 6) (by kernel_rfl) rfl (fun KK hK => ?_)
          go_simp
          refine (unhide d12).mono ?_
          rintro e wt ⟨rfl, hSt, hbox⟩
          have ft := unhide HFACT wt hSt.bel
          have lt := run_ld42 ((hbox wr.heap.size (Nat.le_refl _) (unhide HYL)).trans (unhide HYX))
          have HSt := hide hSt
          clear hSt hHeld hbox
          go_simp
          refine hK.out _ _ ⟨lt, ft.1, ft.2⟩ (fun hHeld => ?_)
          clear hK KK hHeld lt ft
          refine wpAnyL_past (i := 7) (by kernel_rfl) rfl (by kernel_rfl) (fun KK hK => ?_)
          go_simp
          refine hK.out _ _ ?_
          clear hK KK
          refine wpAnyL_done (by kernel_rfl) ?_
          cases lk with
          | false =>
            go_wp2_with fail
            exact ⟨⟨i + 1, by go_num, by omega, HSt⟩, by simp [intOf]; omega⟩
          | true =>
            go_upto_region 28 with fail
            obtain ⟨Y, hY⟩ : ∃ Y, Y = wt.drew := ⟨_, rfl⟩
            have hS6 : St W1 Y bk ba bb d1 r1 d1 r1 (mz (X.map qR) + totA A (i + 1)) := by rw [hY]; exact (unhide HSt).below (below_drewN (Below.refl _ _) 1)
            have fY := unhide HFACT Y hS6.bel
            have lY := run_ld42 hS6.xa
            have d13 : Hid (Calls Tryz.prog 13 #[.agg #[.pointer (some ⟨d1, 0, none⟩), .pointer (some ⟨r1, 0, none⟩)], .agg #[.int .i64 a.who, .slice a.p a.R.length a.c, .string a.nm, .int .i64 a.fr, .int .i64 a.tt], .pointer (some ⟨bk, 0, none⟩)] Y fun e w' => e = .returned (.bool true) ∧ St W1 w' bk ba bb d1 r1 d1 r1 (mz (X.map qR) + totA A (i + 1))) := hS6.look (unhide HM1) false a (unhide HNZ)
            refine wp_region_last (n := 8) (S := fun X => (ld42 (.pointer (some ⟨ba, 0, none⟩))).run Tryz.prog X = .ok (.agg #[.pointer (some ⟨d1, 0, none⟩), .pointer (some ⟨r1, 0, none⟩)]) X ∧ X.cell? ⟨bP, 1, none⟩ = some (.slice (some ⟨b, off, none⟩) nA cA) ∧ (ld68 (.pointer (some ⟨b, off + i * 5, none⟩))).run Tryz.prog X = .ok (.agg #[.int .i64 a.who, .slice a.p a.R.length a.c, .string a.nm, .int .i64 a.fr, .int .i64 a.tt]) X) (by kernel_rfl) (by rw [← hY]; exact ⟨lY, fY.1, fY.2⟩) (fun hHeld => ?_)
            rw [← hY] at hHeld ⊢
            clear hY lY fY hS6
            refine tkS 0 ?_; refine tkW 1 ?_; refine tkS 2 ?_; refine tkW 3 ?_; refine tkW 4 ?_; refine tkS 5 ?_; refine tkW 6 ?_
            refine wpAnyL_one (i := 7) (by kernel_rfl) rfl (fun KK hK => ?_)
            go_simp
            refine (unhide d13).mono ?_
            rintro e wu ⟨rfl, hSt⟩
            have ft := unhide HFACT wu hSt.bel
            have lt := run_ld42 hSt.xa
            have HSu := hide hSt
            clear hSt hHeld d13
            go_simp
            refine hK.out _ _ ⟨lt, ft.1, ft.2⟩ (fun hHeld => ?_)
            clear hK KK hHeld lt ft
            refine wpAnyL_past (i := 8) (by kernel_rfl) rfl (by kernel_rfl) (fun KK hK => ?_)
            go_simp
            refine hK.out _ _ ?_
            clear hK KK
            refine wpAnyL_done (by kernel_rfl) ?_
            go_upto_region 29 with fail
            obtain ⟨Y, hY⟩ : ∃ Y, Y = wu.drew := ⟨_, rfl⟩
            have hS6 : St W1 Y bk ba bb d1 r1 d1 r1 (mz (X.map qR) + totA A (i + 1)) := by rw [hY]; exact (unhide HSu).below (below_drewN (Below.refl _ _) 1)
            have fY := unhide HFACT Y hS6.bel
            have lY := run_ld42 hS6.xb
            have d13 : Hid (Calls Tryz.prog 13 #[.agg #[.pointer (some ⟨d1, 0, none⟩), .pointer (some ⟨r1, 0, none⟩)], .agg #[.int .i64 a.who, .slice a.p a.R.length a.c, .string a.nm, .int .i64 a.fr, .int .i64 a.tt], .pointer (some ⟨bk, 0, none⟩)] Y fun e w' => e = .returned (.bool true) ∧ St W1 w' bk ba bb d1 r1 d1 r1 (mz (X.map qR) + totA A (i + 1))) := hS6.look (unhide HM1) true a (unhide HNZ)
            refine wp_region_last (n := 8) (S := fun X => (ld42 (.pointer (some ⟨bb, 0, none⟩))).run Tryz.prog X = .ok (.agg #[.pointer (some ⟨d1, 0, none⟩), .pointer (some ⟨r1, 0, none⟩)]) X ∧ X.cell? ⟨bP, 1, none⟩ = some (.slice (some ⟨b, off, none⟩) nA cA) ∧ (ld68 (.pointer (some ⟨b, off + i * 5, none⟩))).run Tryz.prog X = .ok (.agg #[.int .i64 a.who, .slice a.p a.R.length a.c, .string a.nm, .int .i64 a.fr, .int .i64 a.tt]) X) (by kernel_rfl) (by rw [← hY]; exact ⟨lY, fY.1, fY.2⟩) (fun hHeld => ?_)
            rw [← hY] at hHeld ⊢
            clear hY lY fY hS6
            refine tkS 0 ?_; refine tkW 1 ?_; refine tkS 2 ?_; refine tkW 3 ?_; refine tkW 4 ?_; refine tkS 5 ?_; refine tkW 6 ?_
            refine wpAnyL_one (i := 7) (by kernel_rfl) rfl (fun KK hK => ?_)
            go_simp
            refine (unhide d13).mono ?_
            rintro e wv ⟨rfl, hSt⟩
            have ft := unhide HFACT wv hSt.bel
            have lt := run_ld42 hSt.xb
            have HSv := hide hSt
            clear hSt hHeld d13
            go_simp
            refine hK.out _ _ ⟨lt, ft.1, ft.2⟩ (fun hHeld => ?_)
            clear hK KK hHeld lt ft
            refine wpAnyL_past (i := 8) (by kernel_rfl) rfl (by kernel_rfl) (fun KK hK => ?_)
            go_simp
            refine hK.out _ _ ?_
            clear hK KK
            refine wpAnyL_done (by kernel_rfl) ?_
            go_wp2_with fail
            exact ⟨⟨i + 1, by go_num, by omega, HSv⟩, by simp [intOf]; omega⟩
        · go_upto_region 24 with fail
          obtain ⟨Y, hY⟩ : ∃ Y, Y = Z2.drew := ⟨_, rfl⟩
          have bY : Below wr.heap.size wr Y := by rw [hY]; exact below_drewN (unhide HBZ2) 1
          have fY := unhide HFACT Y ((unhide HS).below bY).bel
          have HYX : Hid (Y.heap[wr.heap.size]? = some (.cells #[.pointer (some ⟨d1, 0, none⟩), .pointer (some ⟨r1, 0, none⟩)] 42 (0, 0))) := by rw [hY]; exact unhide Hz2
          have HYL : Hid (wr.heap.size < Y.heap.size) := (Array.getElem?_eq_some_iff.1 (unhide HYX)).1
          have lY := run_ld42 (unhide HYX)
          have d12 : Hid (Calls Tryz.prog 12 #[.agg #[.pointer (some ⟨d1, 0, none⟩), .pointer (some ⟨r1, 0, none⟩)], .agg #[.int .i64 a.who, .slice a.p a.R.length a.c, .string a.nm, .int .i64 a.fr, .int .i64 a.tt]] Y fun e w' => e = .returned (.bool true) ∧ St W1 w' bk ba bb d1 r1 d1 r1 (mz (X.map qR) + totA A (i + 1)) ∧ ∀ q, wr.heap.size ≤ q → q < Y.heap.size → w'.heap[q]? = Y.heap[q]?) := unhide HTELL true Y bY
          refine wp_region_last (n := 7) (S := fun X => (ld42 (.pointer (some ⟨wr.heap.size, 0, none⟩))).run Tryz.prog X = .ok (.agg #[.pointer (some ⟨d1, 0, none⟩), .pointer (some ⟨r1, 0, none⟩)]) X ∧ X.cell? ⟨bP, 1, none⟩ = some (.slice (some ⟨b, off, none⟩) nA cA) ∧ (ld68 (.pointer (some ⟨b, off + i * 5, none⟩))).run Tryz.prog X = .ok (.agg #[.int .i64 a.who, .slice a.p a.R.length a.c, .string a.nm, .int .i64 a.fr, .int .i64 a.tt]) X) (by kernel_rfl) (by rw [← hY]; exact ⟨lY, fY.1, fY.2⟩) (fun hHeld => ?_)
          rw [← hY] at hHeld ⊢
          clear hY lY fY bY lA lB s1 s2 cP cP1 kw kw1
          refine tkS 0 ?_; refine tkW 1 ?_; refine tkS 2 ?_; refine tkW 3 ?_; refine tkW 4 ?_; refine tkS 5 ?_
          refine wpAnyL_one (i := 6) (by kernel_rfl) rfl (fun KK hK => ?_)
          go_simp
          refine (unhide d12).mono ?_
          rintro e wt ⟨rfl, hSt, hbox⟩
          have ft := unhide HFACT wt hSt.bel
          have lt := run_ld42 ((hbox wr.heap.size (Nat.le_refl _) (unhide HYL)).trans (unhide HYX))
          have HSt := hide hSt
          clear hSt hHeld hbox
          go_simp
          refine hK.out _ _ ⟨lt, ft.1, ft.2⟩ (fun hHeld => ?_)
          clear hK KK hHeld lt ft
          refine wpAnyL_past (i := 7) (by kernel_rfl) rfl (by kernel_rfl) (fun KK hK => ?_)
          go_simp
          refine hK.out _ _ ?_
          clear hK KK
          refine wpAnyL_done (by kernel_rfl) ?_
          cases lk with
          | false =>
            go_wp2_with fail
            exact ⟨⟨i + 1, by go_num, by omega, HSt⟩, by simp [intOf]; omega⟩
          | true =>
            go_upto_region 28 with fail
            obtain ⟨Y, hY⟩ : ∃ Y, Y = wt.drew := ⟨_, rfl⟩
            have hS6 : St W1 Y bk ba bb d1 r1 d1 r1 (mz (X.map qR) + totA A (i + 1)) := by rw [hY]; exact (unhide HSt).below (below_drewN (Below.refl _ _) 1)
            have fY := unhide HFACT Y hS6.bel
            have lY := run_ld42 hS6.xa
            have d13 : Hid (Calls Tryz.prog 13 #[.agg #[.pointer (some ⟨d1, 0, none⟩), .pointer (some ⟨r1, 0, none⟩)], .agg #[.int .i64 a.who, .slice a.p a.R.length a.c, .string a.nm, .int .i64 a.fr, .int .i64 a.tt], .pointer (some ⟨bk, 0, none⟩)] Y fun e w' => e = .returned (.bool true) ∧ St W1 w' bk ba bb d1 r1 d1 r1 (mz (X.map qR) + totA A (i + 1))) := hS6.look (unhide HM1) false a (unhide HNZ)
            refine wp_region_last (n := 8) (S := fun X => (ld42 (.pointer (some ⟨ba, 0, none⟩))).run Tryz.prog X = .ok (.agg #[.pointer (some ⟨d1, 0, none⟩), .pointer (some ⟨r1, 0, none⟩)]) X ∧ X.cell? ⟨bP, 1, none⟩ = some (.slice (some ⟨b, off, none⟩) nA cA) ∧ (ld68 (.pointer (some ⟨b, off + i * 5, none⟩))).run Tryz.prog X = .ok (.agg #[.int .i64 a.who, .slice a.p a.R.length a.c, .string a.nm, .int .i64 a.fr, .int .i64 a.tt]) X) (by kernel_rfl) (by rw [← hY]; exact ⟨lY, fY.1, fY.2⟩) (fun hHeld => ?_)
            rw [← hY] at hHeld ⊢
            clear hY lY fY hS6
            refine tkS 0 ?_; refine tkW 1 ?_; refine tkS 2 ?_; refine tkW 3 ?_; refine tkW 4 ?_; refine tkS 5 ?_; refine tkW 6 ?_
            refine wpAnyL_one (i := 7) (by kernel_rfl) rfl (fun KK hK => ?_)
            go_simp
            refine (unhide d13).mono ?_
            rintro e wu ⟨rfl, hSt⟩
            have ft := unhide HFACT wu hSt.bel
            have lt := run_ld42 hSt.xa
            have HSu := hide hSt
            clear hSt hHeld d13
            go_simp
            refine hK.out _ _ ⟨lt, ft.1, ft.2⟩ (fun hHeld => ?_)
            clear hK KK hHeld lt ft
            refine wpAnyL_past (i := 8) (by kernel_rfl) rfl (by kernel_rfl) (fun KK hK => ?_)
            go_simp
            refine hK.out _ _ ?_
            clear hK KK
            refine wpAnyL_done (by kernel_rfl) ?_
            go_upto_region 29 with fail
            obtain ⟨Y, hY⟩ : ∃ Y, Y = wu.drew := ⟨_, rfl⟩
            have hS6 : St W1 Y bk ba bb d1 r1 d1 r1 (mz (X.map qR) + totA A (i + 1)) := by rw [hY]; exact (unhide HSu).below (below_drewN (Below.refl _ _) 1)
            have fY := unhide HFACT Y hS6.bel
            have lY := run_ld42 hS6.xb
            have d13 : Hid (Calls Tryz.prog 13 #[.agg #[.pointer (some ⟨d1, 0, none⟩), .pointer (some ⟨r1, 0, none⟩)], .agg #[.int .i64 a.who, .slice a.p a.R.length a.c, .string a.nm, .int .i64 a.fr, .int .i64 a.tt], .pointer (some ⟨bk, 0, none⟩)] Y fun e w' => e = .returned (.bool true) ∧ St W1 w' bk ba bb d1 r1 d1 r1 (mz (X.map qR) + totA A (i + 1))) := hS6.look (unhide HM1) true a (unhide HNZ)
            refine wp_region_last (n := 8) (S := fun X => (ld42 (.pointer (some ⟨bb, 0, none⟩))).run Tryz.prog X = .ok (.agg #[.pointer (some ⟨d1, 0, none⟩), .pointer (some ⟨r1, 0, none⟩)]) X ∧ X.cell? ⟨bP, 1, none⟩ = some (.slice (some ⟨b, off, none⟩) nA cA) ∧ (ld68 (.pointer (some ⟨b, off + i * 5, none⟩))).run Tryz.prog X = .ok (.agg #[.int .i64 a.who, .slice a.p a.R.length a.c, .string a.nm, .int .i64 a.fr, .int .i64 a.tt]) X) (by kernel_rfl) (by rw [← hY]; exact ⟨lY, fY.1, fY.2⟩) (fun hHeld => ?_)
            rw [← hY] at hHeld ⊢
            clear hY lY fY hS6
            refine tkS 0 ?_; refine tkW 1 ?_; refine tkS 2 ?_; refine tkW 3 ?_; refine tkW 4 ?_; refine tkS 5 ?_; refine tkW 6 ?_
            refine wpAnyL_one (i := 7) (by kernel_rfl) rfl (fun KK hK => ?_)
            go_simp
            refine (unhide d13).mono ?_
            rintro e wv ⟨rfl, hSt⟩
            have ft := unhide HFACT wv hSt.bel
            have lt := run_ld42 hSt.xb
            have HSv := hide hSt
            clear hSt hHeld d13
            go_simp
            refine hK.out _ _ ⟨lt, ft.1, ft.2⟩ (fun hHeld => ?_)
            clear hK KK hHeld lt ft
            refine wpAnyL_past (i := 8) (by kernel_rfl) rfl (by kernel_rfl) (fun KK hK => ?_)
            go_simp
            refine hK.out _ _ ?_
            clear hK KK
            refine wpAnyL_done (by kernel_rfl) ?_
            go_wp2_with fail
            exact ⟨⟨i + 1, by go_num, by omega, HSv⟩, by simp [intOf]; omega⟩
      · by_cases hltA : i < nA
        · have hI : (i : Int) < (nA : Int) := by omega
          have h60 : ¬ (i : Int) < 60 := by omega
          have lA := run_ld42 hS.xa
          have d30 : Hid (Calls Tryz.prog 13 #[.agg #[.pointer (some ⟨d1, 0, none⟩), .pointer (some ⟨r1, 0, none⟩)], .agg #[.int .i64 0, .slice none 0 0, .string ⟨#[65]⟩, .int .i64 1, .int .i64 9], .pointer (some ⟨bk, 0, none⟩)] wr fun e w' => e = .returned (.bool true) ∧ St W1 w' bk ba bb d1 r1 d1 r1 (mz (X.map qR) + totA A i)) := hS.look (by omega) false ⟨0, none, 0, [], ⟨#[65]⟩, 1, 9⟩ (by decide)
          have HM9 : Hid (mz (X.map qR) + totA A i ≤ 1048576) := by show _ ≤ _; omega
          clear hrel hS hto hM
          go_upto_region 33 with (first | (go_at_call 13; refine (unhide d30).mono ?_; rintro e wt ⟨rfl, hSt⟩))
          have lB := run_ld42 hSt.xb
          have d31 : Hid (Calls Tryz.prog 13 #[.agg #[.pointer (some ⟨d1, 0, none⟩), .pointer (some ⟨r1, 0, none⟩)], .agg #[.int .i64 0, .slice none 0 0, .string ⟨#[65, 58, 66]⟩, .int .i64 (-1), .int .i64 4611686018427387904], .pointer (some ⟨bk, 0, none⟩)] wt fun e w' => e = .returned (.bool true) ∧ St W1 w' bk ba bb d1 r1 d1 r1 (mz (X.map qR) + totA A i)) := hSt.look (unhide HM9) true ⟨0, none, 0, [], ⟨#[65, 58, 66]⟩, -1, 4611686018427387904⟩ (by decide)
          clear hSt d30 lA cP
          go_upto_region 34 with (first | (go_at_call 13; refine (unhide d31).mono ?_; rintro e wu ⟨rfl, hSu⟩))
          have d32 : Hid (Calls Tryz.prog 14 #[.pointer (some ⟨bk, 0, none⟩)] wu fun e w' => e = .returned (.bool true) ∧ Below W.heap.size W w') := by
            obtain ⟨U, G, hk, _, hU, _⟩ := hSu.ex
            refine hk.settle.mono ?_
            rintro e w' ⟨h1, U', _, hs⟩
            have h2 := belowSep hSu.bel hs (fun q hq => (hU q hq).1)
            exact ⟨h1, (unhide HBW1).trans (h2.mono (unhide HBW1).size)⟩
          clear hSu d31 lB
          go_wp2_with (first | (go_at_call 14; refine (unhide d32).mono ?_; rintro e wv ⟨rfl, hbv⟩; have HBV := hide hbv; clear hbv))
          go_ret
          exact ⟨rfl, unhide HBV⟩
        · have hI : ¬ (i : Int) < (nA : Int) := by omega
          have lA := run_ld42 hS.xa
          have d30 : Hid (Calls Tryz.prog 13 #[.agg #[.pointer (some ⟨d1, 0, none⟩), .pointer (some ⟨r1, 0, none⟩)], .agg #[.int .i64 0, .slice none 0 0, .string ⟨#[65]⟩, .int .i64 1, .int .i64 9], .pointer (some ⟨bk, 0, none⟩)] wr fun e w' => e = .returned (.bool true) ∧ St W1 w' bk ba bb d1 r1 d1 r1 (mz (X.map qR) + totA A i)) := hS.look (by omega) false ⟨0, none, 0, [], ⟨#[65]⟩, 1, 9⟩ (by decide)
          have HM9 : Hid (mz (X.map qR) + totA A i ≤ 1048576) := by show _ ≤ _; omega
          clear hrel hS hto hM
          go_upto_region 33 with (first | (go_at_call 13; refine (unhide d30).mono ?_; rintro e wt ⟨rfl, hSt⟩))
          have lB := run_ld42 hSt.xb
          have d31 : Hid (Calls Tryz.prog 13 #[.agg #[.pointer (some ⟨d1, 0, none⟩), .pointer (some ⟨r1, 0, none⟩)], .agg #[.int .i64 0, .slice none 0 0, .string ⟨#[65, 58, 66]⟩, .int .i64 (-1), .int .i64 4611686018427387904], .pointer (some ⟨bk, 0, none⟩)] wt fun e w' => e = .returned (.bool true) ∧ St W1 w' bk ba bb d1 r1 d1 r1 (mz (X.map qR) + totA A i)) := hSt.look (unhide HM9) true ⟨0, none, 0, [], ⟨#[65, 58, 66]⟩, -1, 4611686018427387904⟩ (by decide)
          clear hSt d30 lA cP
          go_upto_region 34 with (first | (go_at_call 13; refine (unhide d31).mono ?_; rintro e wu ⟨rfl, hSu⟩))
          have d32 : Hid (Calls Tryz.prog 14 #[.pointer (some ⟨bk, 0, none⟩)] wu fun e w' => e = .returned (.bool true) ∧ Below W.heap.size W w') := by
            obtain ⟨U, G, hk, _, hU, _⟩ := hSu.ex
            refine hk.settle.mono ?_
            rintro e w' ⟨h1, U', _, hs⟩
            have h2 := belowSep hSu.bel hs (fun q hq => (hU q hq).1)
            exact ⟨h1, (unhide HBW1).trans (h2.mono (unhide HBW1).size)⟩
          clear hSu d31 lB
          go_wp2_with (first | (go_at_call 14; refine (unhide d32).mono ?_; rintro e wv ⟨rfl, hbv⟩; have HBV := hide hbv; clear hbv))
          go_ret
          exact ⟨rfl, unhide HBV⟩
end Go.Proofs.YtmgnlgobkkfjhaaGreatDoor.Kg
