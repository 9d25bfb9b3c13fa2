/- The grid's text (51). -/
import Derived.Test.YtcafhmlpmbkhkaaGreatDoorGrdC
import Derived.Laws.BytesArg
import Derived.Laws.IdiomStrings
namespace Go.Proofs.YtcafhmlpmbkhkaaGreatDoor
open Go Go.Shelf Go.ChangeShapes Go.WideShapes Go.ChangeAt Go.RowKit Go.Maps
set_option linter.unusedVariables false
set_option linter.unusedSimpArgs false
theorem bcs_get {l : Tx} {j : Nat} (h : j < l.length) : (bcs l)[j]? = some (.int .u8 (l[j].toNat : Int)) := by simp [bcs, h]
set_option maxRecDepth 100000 in
theorem conv_row {w0 W : World} {T : Tx} {p : Option Addr} {n c : Nat} (h : By w0 T (.slice p n c) W) : (convert 196 9 (.slice p n c)).run Tryz.prog W = .ok (.string (txB T)) W := by
  rcases h.own.2 with ⟨h1, h2⟩ | ⟨g, cap, cur, h1, _⟩
  · injection h1 with h1 h1b h1c
    subst h1 h1b h1c
    have hb : T = [] := List.eq_nil_of_length_eq_zero h2
    subst hb
    exact run_convert_bytes_nil W 196 5 Tryz.underlying196 Tryz.underlying5 _ _ 9 Tryz.underlying9
  · injection h1 with h1 h1b h1c
    subst h1 h1b h1c
    exact run_convert_bytes_back (P := Tryz.prog) W 196 9 5 ⟨g, 0, none⟩ _ T Tryz.underlying196 Tryz.underlying5 Tryz.underlying9 (fun j hj => h.own.cells (g := g) rfl j _ (bcs_get hj))
theorem WdAt.lies {w : World} {m : Nat} {f : Nat → Nat} {g c : Nat} {wr : World} (a : WdAt w m f g c wr) : Lies kI wr (some ⟨g, 0, none⟩) (wds m f) := own_lies kI_ok (wds_len m f) a.own
/-- what text hands back -/
def TxtOut (w : World) (T : Tx) (e : Ending) (w' : World) : Prop := e = .returned (.string (txB T)) ∧ Below w.heap.size w w'
set_option maxRecDepth 100000 in
set_option maxHeartbeats 8000000 in
theorem gtext_of {B : Nat} {w : World} {d : Nat} {S : List Int} {R : List (List Tx)} (h0 : Gr B w d S R) (hm : S.length ≤ 1048576) (hR : ∀ r ∈ R, r.length ≤ S.length) {M : Nat} (hM : ∀ r ∈ R, ∀ x ∈ r, x.length ≤ M) (hM1 : M ≤ 1099511627776)
    (htot : (R.length + 1) * (S.length * (M + 2) + 1) ≤ 140737488355328) (hn : R.length ≤ 1099511627776) :
    Calls Tryz.prog 51 #[.pointer (some ⟨d, 0, none⟩)] w (TxtOut w (gridT (rgt S) R)) := by
  obtain ⟨ps, cs, pr, cr, L, h⟩ := h0
  have hdlt : d < w.heap.size := (Array.getElem?_eq_some_iff.1 h.cell).1
  obtain ⟨n, hRn⟩ : ∃ n, n = R.length := ⟨_, rfl⟩
  have hwm : ∀ c, wid R c ≤ M := fun c => wid_le fun r hr => by
    rw [List.getD_eq_getElem?_getD]
    rcases Nat.lt_or_ge c r.length with hc | hc
    · rw [List.getElem?_eq_getElem hc]
      exact hM r hr _ (List.getElem_mem hc)
    · rw [List.getElem?_eq_none hc]
      exact Nat.zero_le _
  have hc1 : w.cell? ⟨d, 1, none⟩ = some (.slice pr n cr) := by rw [cell_at h.cell, hRn]; rfl
  have D1 := hide (widths_any ⟨ps, cs, pr, cr, L, h⟩ hm hR (fun r hr x hx => Nat.le_trans (hM r hr x hx) hM1) hn)
  have H := hide h; have HN := hide hRn; have HR := hide hR; have HWM := hide hwm; have HTOT := hide htot; have HM1 := hide hM; have HC1 := hide hc1
  have hnn : n ≤ 1099511627776 := by omega
  have HSL := hide hm
  clear h hR hM hwm htot hn hc1 hm hRn
  go_enter Tryz.func51, Tryz.ntmps51
  go_wp2_with fail
  refine (unhide D1).mono ?_
  rintro e w1 ⟨g, cg, rfl, hw⟩
  have HW := hide hw
  have hc1 : w1.cell? ⟨d, 1, none⟩ = some (.slice pr n cr) := keep1 hw.bel hdlt (unhide HC1)
  clear D1 hw
  go_wp2_with fail
  go_loopw [4, 14] (fun tv iv wr => ∃ (k : Nat) (K : Int), k ≤ n ∧ iv = .int .i64 K ∧ K = (k : Int) ∧ (∃ p' n' c', tv = .slice p' n' c') ∧ Hid (By w1 (linesT (rgt S) (wid R) (R.take k)) tv wr)) (fun _ iv _ => ((n : Int) - intOf iv).toNat)
  case atStart => exact ⟨0, 0, by omega, rfl, rfl, ⟨_, _, _, rfl⟩, World.ownsRow_nil _ _ _ _, Below.refl _ _⟩
  case round =>
    obtain ⟨wo, rfl⟩ : ∃ x, x = wr := ⟨wr, rfl⟩
    obtain ⟨k, K, hk, rfl, hK, ⟨p1, n1, c1, rfl⟩, HA⟩ := hrel
    by_cases hlt : k < n
    · have hI : K < (n : Int) := by omega
      have hK0 : 0 ≤ K := by omega
      have hKt : K.toNat = k := by omega
      have hkR : k < R.length := by have := unhide HN; omega
      obtain ⟨r, hr⟩ : ∃ r, R[k]? = some r := ⟨R[k], List.getElem?_eq_getElem hkR⟩
      obtain ⟨s, hs⟩ : ∃ s, L[k]? = some s := ⟨L[k]'(by rw [(unhide H).len]; exact hkR), List.getElem?_eq_getElem _⟩
      have hri := (unhide H).row k s r hs hr
      have hkL : k < L.length := by rw [(unhide H).len]; exact hkR
      obtain ⟨gr, epr⟩ : ∃ g, pr = some ⟨g, 0, none⟩ := by
        obtain ⟨g, c', hv⟩ := own_open (unhide H).own (by omega)
        injection hv with h1
        exact ⟨g, h1⟩
      subst epr
      have hgr : gr < w.heap.size := ((unhide H).own.lt gr rfl).2
      have hbw := (unhide HW).bel
      have hmem := List.mem_of_getElem? hr
      have ld1 : wo.cell? ⟨gr, k, none⟩ = some (.slice s.p s.n s.c) := by
        refine keep1 (unhide HA).bel (Nat.lt_of_lt_of_le hgr hbw.size) (keep1 hbw hgr ?_)
        have h1 := (unhide H).own.cellAt k (by omega)
        rw [h1]
        have h2 := flat_get kS_ok L k hkL 0 (by decide)
        have h3 : L[k] = s := by rw [List.getElem?_eq_getElem hkL] at hs; exact Option.some.inj hs
        rw [h3] at h2
        simpa [kS] using h2
      obtain ⟨sp, sn, sc⟩ := s
      have hsn : sn = r.length := hri.n
      have hsm : sn ≤ S.length := by rw [hsn]; exact unhide HR r hmem
      have hll : (linesT (rgt S) (wid R) (R.take k)).length ≤ k * (S.length * (M + 2) + 1) := by
        have := lines_len (right := rgt S) (R := R) (unhide HWM) (unhide HR) (R.take k) (fun r hr => List.mem_of_mem_take hr)
        rwa [List.length_take, Nat.min_eq_left (by omega)] at this
      have hk2 : k * (S.length * (M + 2) + 1) + (S.length * (M + 2) + 1) ≤ 140737488355328 := by
        have h1 : (k + 1) * (S.length * (M + 2) + 1) ≤ (R.length + 1) * (S.length * (M + 2) + 1) := Nat.mul_le_mul_right _ (by omega)
        rw [Nat.add_mul, Nat.one_mul] at h1
        exact Nat.le_trans h1 (unhide HTOT)
      have hsM : sn * (M + 2) ≤ S.length * (M + 2) := Nat.mul_le_mul_right _ hsm
      have D2 := hide (arow_any (cw := cg) (⟨ps, cs, some ⟨gr, 0, none⟩, cr, L, (unhide H).gd hbw⟩ : Gr B w1 d S R) (unhide HA) (hri.gd (Gd.of_below (B := 0) hbw (Nat.zero_le _))) hsm (unhide HSL) (unhide HW).lies (wid_ge hmem) (unhide HWM) hM1 (by omega))
      have HLI : Hid ((linesT (rgt S) (wid R) (R.take k) ++ lineT (rgt S) (wid R) r).length + 1 ≤ 140737488355328) := by
        have h1 := line_len (right := rgt S) hmem (unhide HWM) (unhide HR r hmem)
        show _ ≤ _
        rw [List.length_append]
        omega
      have HT := hide (linesT_take (rgt S) (wid R) R k r hr)
      have HK := hide hK
      clear hr hs hri hkL hgr hmem hsn hsm hll hk2 hsM hkR hlt hK hbw
      go_wp2_with fail
      refine (unhide D2).mono ?_
      rintro e w2 ⟨v2, rfl, hB2⟩
      obtain ⟨p2, n2, c2, rfl⟩ : ∃ p n c, v2 = .slice p n c := by obtain ⟨p, c, e⟩ := hB2.slice; exact ⟨_, _, _, e⟩
      obtain ⟨v3, w3, hr3, hB3⟩ := hB2.app [10] (by have := unhide HLI; simpa using this)
      obtain ⟨p3, n3, c3, rfl⟩ : ∃ p n c, v3 = .slice p n c := by obtain ⟨p, c, e⟩ := hB3.slice; exact ⟨_, _, _, e⟩
      have HR3 : Hid ((Builtin.append_ #[196, 9] 196 #[.slice p2 n2 c2, .string ⟨#[10]⟩]).run Tryz.prog w2 = .ok (.slice p3 n3 c3) w3) := hr3
      have HFIN : Hid (By w1 (linesT (rgt S) (wid R) (R.take (k + 1))) (.slice p3 n3 c3) w3) := by
        show By _ _ _ _
        rw [unhide HT]
        exact hB3
      clear hr3 hB3 hB2 D2
      go_wp2_with (at_builtin; refine wpList_append_runS rfl _ _ 196 9 rfl _ _ _ _ rfl rfl (unhide HR3) ?_)
      exact ⟨⟨k + 1, K + 1, by have := unhide HK; omega, by go_num, by have := unhide HK; omega, ⟨_, _, _, rfl⟩, unhide HFIN⟩, by simp [intOf]; omega⟩
    · have hI : ¬ K < (n : Int) := by omega
      have ek : k = R.length := by have := unhide HN; omega
      have hA := unhide HA
      rw [ek, List.take_length] at hA
      have hcv := conv_row hA
      have HF : Hid (TxtOut w (gridT (rgt S) R) (.returned (.string (txB (gridT (rgt S) R)))) wo) := ⟨rfl, (unhide HW).bel.trans (hA.bel.mono (unhide HW).bel.size)⟩
      obtain ⟨G, hG⟩ : ∃ G, G = txB (gridT (rgt S) R) := ⟨_, rfl⟩
      rw [show linesT (rgt S) (wid R) R = gridT (rgt S) R from rfl, ← hG] at hcv
      rw [← hG] at HF
      clear HA hA hK hG ek
      go_wp2_with fail
      go_ret
      exact unhide HF
end Go.Proofs.YtcafhmlpmbkhkaaGreatDoor
