import Derived.Test.YtddpladmkmpoaaaPiece
import Derived.Test.YtddpladmkmpoaaaSumZ
namespace Go.Proofs.Ytddpladmkmpoaaa
open Go.ChangeShapes Go.WideShapes Go.ChangeAt Go.RowKit
set_option linter.unusedVariables false
attribute [local go_sem] setCell_drewN alloc_drewN

/-- a list that came in: none, or none of its numbers, or so many cells -/
structure LIn (zs : Nat → Int) (w : World) (a0 : Option Addr) (len cap : Nat) : Prop where
  reach : len * 8 ≤ 140737488351232
  bd : ∀ k, k < len → -9223372036854775808 ≤ zs k ∧ zs k ≤ 9223372036854775807
  at' : (len = 0 ∧ (a0 = none → cap = 0)) ∨ ∃ b off, a0 = some ⟨b, off, none⟩ ∧ b < w.heap.size ∧ len ≤ cap ∧ ∀ k, k < len → w.cell? ⟨b, off + k, none⟩ = some (.int .i64 (zs k))

theorem piece_any {zs : Nat → Int} {w : World} {a0 : Option Addr} {len cap : Nat} (h : LIn zs w a0 len cap) : Calls Try.prog 7 #[.slice a0 len cap] w fun e w' => PieceOut zs len w e w' := by
  rcases h.at' with ⟨rfl, h0⟩ | ⟨b, off, rfl, hb, hcap, hc⟩
  · cases a0 with
    | none =>
      rw [h0 rfl]
      exact piece_none zs w
    | some ad => exact piece_some zs ad 0 cap (by omega) w (fun j hj => by omega)
  · exact piece_some zs ⟨b, off, none⟩ len cap h.reach w (fun j hj => by rw [Addr.add_mid]; exact hc j hj)
theorem rsum_in {zs : Nat → Int} {w : World} {a0 : Option Addr} {len cap : Nat} (h : LIn zs w a0 len cap) (w1 : World) (hb : Below w.heap.size w w1) : Calls Try.prog 9 #[.slice a0 len cap] w1 fun e w' => e = .returned (.tuple #[.int .i64 (sumSpec zs len).1, .int .i64 (sumSpec zs len).2]) ∧ Below w1.heap.size w1 w' := by
  rcases h.at' with ⟨rfl, h0⟩ | ⟨b, off, rfl, hbb, hcap, hc⟩
  · exact rsum_zero zs a0 cap w1
  · exact rsum_any zs b off len cap (by have := h.reach; omega) h.bd w1 (fun k hk => keep1 hb hbb (hc k hk)) (Nat.lt_of_lt_of_le hbb hb.size)
theorem kept_in {zs : Nat → Int} {w : World} {a0 : Option Addr} {len cap : Nat} (h : LIn zs w a0 len cap) (w1 : World) (hb : Below w.heap.size w w1) (g c : Nat) (hf : ∀ k, k < len + 64 → w1.cell? ⟨g, k, none⟩ = some (.int .i64 (pz zs len k))) :
    Calls Try.prog 10 #[.slice (some ⟨g, 0, none⟩) (len + 64) c, .slice a0 len cap] w1 fun e w' => e = .returned (.bool true) ∧ ∃ n, w' = w1.drewN n := by
  rcases h.at' with ⟨rfl, h0⟩ | ⟨b, off, rfl, hbb, hcap, hc⟩
  · exact kept_zero zs a0 cap g c w1 hf
  · exact kept_some zs b off len cap h.reach hcap g c w1 (fun k hk => keep1 hb hbb (hc k hk)) hf
/-- the document's Sum of a slice that the call made -/
theorem rsum_own {f : Nat → Int} {len : Nat} {v : Value} {base : Nat} {w : World} (h : w.ownsRow base 2 1 v len (cellsOf f len)) (hr : len * 8 ≤ 140737488351232) (hbd : ∀ k, k < len → -9223372036854775808 ≤ f k ∧ f k ≤ 9223372036854775807) : Calls Try.prog 9 #[v] w fun e w' => e = .returned (.tuple #[.int .i64 (sumSpec f len).1, .int .i64 (sumSpec f len).2]) ∧ Below w.heap.size w w' := by
  rcases h.2 with ⟨hv, h0⟩ | ⟨g, c, cur, hv, hg, _⟩
  · subst h0
    rw [hv]
    exact rsum_zero f none 0 w
  · rw [hv] at h ⊢
    refine rsum_any f g 0 len c (by omega) hbd w (fun k hk => ?_) (h.lt g rfl).2
    rw [h.cellAt (0 + k) (by omega), Nat.zero_add]
    exact cellsOf_get f len k hk

/-- what the law makes of a number: half of it, and one -/
def hv (z : Int) : Int := z.tdiv 2 + 1
theorem hv_bd (z : Int) (h : -9223372036854775808 ≤ z ∧ z ≤ 9223372036854775807) : -9223372036854775808 ≤ hv z ∧ hv z ≤ 9223372036854775807 := by
  unfold hv
  by_cases hz : 0 ≤ z
  · rw [Int.tdiv_eq_ediv_of_nonneg hz]; omega
  · have e : z.tdiv 2 = -((-z) / 2) := by
      rw [← Int.tdiv_eq_ediv_of_nonneg (by omega), Int.neg_tdiv, Int.neg_neg]
    rw [e]; omega

/-- the first k are halved -/
def hz (zs : Nat → Int) (k : Nat) : Nat → Int := fun i => if i < k then hv (zs i) else zs i

structure HalfAt (zs : Nat → Int) (w wr : World) (g len k : Nat) : Prop where
  bel : Below w.heap.size w wr
  cells : ∀ j, j < len → wr.cell? ⟨g, j, none⟩ = some (.int .i64 (hz zs k j))
  fz : ∀ j, wr.frozen? ⟨g, j, none⟩ = false

theorem ret_b {a b : Bool} (h : a = b) : Ending.returned (.bool a) = .returned (.bool b) := by rw [h]
theorem hv_wrap {z : Int} (h : -9223372036854775808 ≤ z ∧ z ≤ 9223372036854775807) : wrap64 (z.tdiv 2 + 1) = hv z := by
  have := hv_bd z h
  unfold hv at *
  unfold wrap64
  omega
theorem hz_full {zs : Nat → Int} {k j : Nat} (h : j < k) : hz zs k j = hv (zs j) := by simp [hz, h]
theorem HalfAt.step {zs : Nat → Int} {w wr : World} {g len k : Nat} (h : HalfAt zs w wr g len k) (hk : k < len) (hg : w.heap.size ≤ g) : HalfAt zs w (wr.setCell ⟨g, k, none⟩ (.int .i64 (hv (zs k)))) g len (k + 1) := by
  refine ⟨h.bel.setCell hg _, fun j hj => ?_, fun j => ?_⟩
  · by_cases e : j = k
    · subst e
      rw [World.cell?_setCell_same _ _ _ (h.cells j hj)]
      simp [hz]
    · rw [World.cell?_setCell_other _ _ _ _ (by intro h'; injection h' with _ h' _; omega), h.cells j hj]
      have : j < k + 1 ↔ j < k := by omega
      simp only [hz, this]
  · simpa using h.fz j
set_option maxHeartbeats 4000000 in
theorem sums_walk (zs : Nat → Int) (a0 : Option Addr) (len cap : Nat) (w : World) (h : LIn zs w a0 len cap) :
    Calls Try.prog 3 #[.slice a0 len cap] w fun e w' => e = .returned (.bool true) ∧ Below w.heap.size w w' := by
  have H := hide h
  have hr := h.reach
  clear h
  go_enter Try.func3, Try.ntmps3
  go_wp2_with fail
  refine (piece_any (unhide H)).mono ?_
  rintro e w1 ⟨g, c, rfl, hown, hb1⟩
  have hc1 : ∀ k, k < len + 64 → w1.cell? ⟨g, k, none⟩ = some (.int .i64 (pz zs len k)) := fun k hk => by rw [hown.cellAt k (by omega)]; exact cellsOf_get _ _ k hk
  have hfz := fun j => hown.frozenAt j
  have hgl := hown.lt g rfl
  have hcap : (len : Int) + 64 ≤ (c : Int) := by
    rcases hown.2 with ⟨hv, _⟩ | ⟨g', c', cur, hv, _, _, hle, _⟩
    · cases hv
    · injection hv with _ _ hv
      subst hv
      omega
  have HC1 := hide hc1
  have HF := hide hfz
  have HB1 := hide hb1
  clear hown hb1 hc1 hfz
  go_wp2_with fail
  refine (msum_any zs g 0 len c (by omega) (unhide H).bd _ (fun k hk => by rw [Nat.zero_add, (unhide HC1) k (by omega), pz_lt hk])).mono ?_
  rintro e w' ⟨rfl, hw⟩
  subst hw
  go_wp2_with fail
  refine (rsum_in (unhide H) _ (unhide HB1)).mono ?_
  rintro e w2 ⟨rfl, hb2⟩
  have HB2 := hide hb2
  clear hb2
  go_wp2_with fail
  refine (kept_in (unhide H) _ ((unhide HB1).trans ((unhide HB2).mono (unhide HB1).size)) g c (fun k hk => keep1 (unhide HB2) hgl.2 ((unhide HC1) k hk))).mono ?_
  rintro e w' ⟨rfl, n, hw⟩
  subst hw
  have HA0 : HalfAt zs w (w2.drewN n) g len 0 := ⟨below_drewN ((unhide HB1).trans ((unhide HB2).mono (unhide HB1).size)) n, fun j hj => (keep1 (unhide HB2) hgl.2 ((unhide HC1) j (by omega))).trans (by rw [pz_lt hj]; rfl), fun j => keepF (unhide HB2) hgl.2 ((unhide HF) j)⟩
  have HA := hide HA0
  clear HA0 HC1 HF HB1 HB2
  go_wp2
  go_loopw [9] (fun i wr => ∃ (k : Nat), k ≤ len ∧ i = .int .i64 k ∧ HalfAt zs w wr g len k) (fun i _ => len - (intOf i).toNat)
  case atStart => exact ⟨0, by omega, rfl, unhide HA⟩
  case round =>
    rename_i wr
    obtain ⟨k, hk, rfl, hs⟩ := hrel
    clear HA
    have HS := hide hs
    by_cases hlt : k < len
    · have hck : wr.cell? ⟨g, k, none⟩ = some (.int .i64 (zs k)) := by rw [hs.cells k hlt]; simp [hz]
      have hfk := hs.fz k
      have hzk := (unhide H).bd k hlt
      have hlt1 : (k : Int) < (len : Int) + 64 := by omega
      clear hs
      by_cases h0 : 0 ≤ zs k
      · go_wp2
        refine ⟨⟨k + 1, by omega, by go_num, ?_⟩, by simp [intOf]; omega⟩
        rw [show zs k / 2 + 1 = hv (zs k) from by unfold hv; rw [Int.tdiv_eq_ediv_of_nonneg h0]]
        exact (unhide HS).step hlt hgl.1
      · go_wp2
        refine ⟨⟨k + 1, by omega, by go_num, ?_⟩, by simp [intOf]; omega⟩
        rw [show wrap64 ((zs k).tdiv 2 + 1) = hv (zs k) from hv_wrap hzk]
        exact (unhide HS).step hlt hgl.1
    · have hkl : k = len := by omega
      subst hkl
      have hcs := hide (fun j hj => ((unhide HS).cells j hj).trans (by rw [hz_full hj]))
      have hbd := hide (fun j hj => hv_bd _ ((unhide H).bd j hj))
      clear hs
      obtain ⟨i0, hi, hz0, hz1, hz2⟩ := info_parts info2
      have HI := hide hi; have HZ0 := hide hz0; have HZ1 := hide hz1; have HZ2 := hide hz2
      clear hi hz0 hz1 hz2
      have hsz := (unhide HS).bel.size
      go_wp2_with (first | (go_at_call 8; refine (msum_any (fun j => hv (zs j)) g 0 k c (by omega) (unhide hbd) _ (fun j hj => by rw [Nat.zero_add]; exact (unhide hcs) j hj)).mono ?_; rintro e w3 ⟨rfl, hw⟩; subst hw) | (at_builtin; refine wpList_append_own _ rfl _ _ 22 rfl w.heap.size 2 i0 (.int .i64 0) 1 8 Try.underlying22 (unhide HI) (unhide HZ0) (unhide HZ1) (unhide HZ2) rfl (by decide) _ _ _ rfl (World.ownsRow_nil _ _ _ _) ⟨g, 0, none⟩ k c (cellsOf (fun j => hv (zs j)) k) rfl (by rw [cellsOf_length]; omega) (fun j u hj => by obtain ⟨h1, h2⟩ := cellsOf_get' hj; rw [h2, Addr.add_mid, Nat.zero_add]; exact (unhide hcs) j h1) (cellsOf_one _ _) (by unfold maxLen; omega) (by omega) hsz ?_; intro v4 w4 hown4 hgrow4 _; have O4 := hide hown4; have G4 := hide hgrow4; clear hown4 hgrow4) | (go_at_call 9; refine (rsum_own (f := fun j => hv (zs j)) (len := k) (base := w.heap.size) (by have h := unhide O4; rwa [Nat.zero_add, List.nil_append] at h) hr (unhide hbd)).mono ?_; rintro e w5 ⟨rfl, hb5⟩))
      go_ret
      have B4 := Below.grown (unhide HS).bel (unhide G4) hsz (by intro k hk; change none = some k at hk; cases hk)
      exact ⟨ret_b (by simp), B4.trans (hb5.mono B4.size)⟩
end Go.Proofs.Ytddpladmkmpoaaa
