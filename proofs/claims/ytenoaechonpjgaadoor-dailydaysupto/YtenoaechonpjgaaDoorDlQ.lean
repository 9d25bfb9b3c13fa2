/- daily: Between (14). -/
import Derived.Test.YtenoaechonpjgaaDoorDlM
import Derived.Test.YtenoaechonpjgaaDoorDlK
namespace Go.Proofs.YtenoaechonpjgaaDoor
open Go Go.RowKit Go.Shelf Go.ChangeShapes Go.WideShapes Go.ChangeAt Go.Maps
set_option linter.unusedVariables false
/-- the marks from a day tt another -/
def btw (S : List Mk) (fr tt : Int) : List Mk := S.filter fun m => decide (fr ≤ m.1) && decide (m.1 ≤ tt)
theorem btw_is {S : List Mk} {fr tt : Int} (hft : fr ≤ tt) {a b : Nat} (ha : a ≤ S.length) (hb : b ≤ S.length) (ha1 : ∀ k, k < a → dayOf S k < fr) (ha2 : ∀ k, a ≤ k → k < S.length → dayOf S k ≥ fr) (hb1 : ∀ k, k < b → dayOf S k ≤ tt) (hb2 : ∀ k, b ≤ k → k < S.length → dayOf S k > tt) : a ≤ b ∧ (S.drop a).take (b - a) = btw S fr tt := by
  have hab : a ≤ b := by
    by_cases h : a ≤ b
    · exact h
    · have h1 := ha1 b (by omega)
      have h2 := hb2 b (Nat.le_refl _) (by omega)
      omega
  refine ⟨hab, ?_⟩
  have e : S = S.take a ++ ((S.drop a).take (b - a) ++ S.drop b) := by
    have : S.drop b = (S.drop a).drop (b - a) := by rw [List.drop_drop]; congr 1; omega
    rw [this, List.take_append_drop, List.take_append_drop]
  have f1 : (S.take a).filter (fun m => decide (fr ≤ m.1) && decide (m.1 ≤ tt)) = [] := List.filter_eq_nil_iff.2 fun m hm => by
    obtain ⟨j, hj, rfl⟩ := List.mem_iff_getElem.1 hm
    rw [List.length_take] at hj
    have := ha1 j (by omega)
    rw [dayOf_lt (show j < S.length by omega)] at this
    rw [List.getElem_take]
    simp
    omega
  have f3 : (S.drop b).filter (fun m => decide (fr ≤ m.1) && decide (m.1 ≤ tt)) = [] := List.filter_eq_nil_iff.2 fun m hm => by
    obtain ⟨j, hj, rfl⟩ := List.mem_iff_getElem.1 hm
    rw [List.length_drop] at hj
    have := hb2 (b + j) (by omega) (by omega)
    rw [dayOf_lt (show b + j < S.length by omega)] at this
    rw [List.getElem_drop]
    simp
    omega
  have f2 : ((S.drop a).take (b - a)).filter (fun m => decide (fr ≤ m.1) && decide (m.1 ≤ tt)) = (S.drop a).take (b - a) := List.filter_eq_self.2 fun m hm => by
    obtain ⟨j, hj, rfl⟩ := List.mem_iff_getElem.1 hm
    rw [List.length_take, List.length_drop] at hj
    have h1 := ha2 (a + j) (by omega) (by omega)
    have h2 := hb1 (a + j) (by omega)
    rw [dayOf_lt (show a + j < S.length by omega)] at h1 h2
    rw [List.getElem_take, List.getElem_drop]
    simp
    omega
  unfold btw
  conv => rhs; rw [e]
  rw [List.filter_append, List.filter_append, f1, f2, f3]
  simp
def BtOut (W : World) (acc : ByteArray) (L : List Mk) (e : Ending) (w' : World) : Prop :=
  ∃ p c, e = .returned (.slice p L.length c) ∧ w'.ownsRow W.heap.size 44 4 (.slice p L.length c) L.length (kD.flat (L.map fun m => (acc, m))) ∧ Below W.heap.size W w'
set_option maxRecDepth 100000 in
set_option maxHeartbeats 4000000 in
theorem btw_any {W : World} {B d n : Nat} {mo : Option Nat} {F : List UInt8 → List Mk} {V : List UInt8 → Value} (hV : DvAt W B d n mo F V) {s : ByteArray} (hs : s.size ≤ maxLen) {T : Td} (hT : Ser T (F s.data.toList)) (hl : (F s.data.toList).length ≤ 1099511627776) (fr tt : Int) :
    Calls Tryd.prog 14 #[.pointer (some ⟨d, 0, none⟩), .string s, .int .i64 fr, .int .i64 tt] W fun e w' => BtOut W s (btw (F s.data.toList) fr tt) e w' := by
  obtain ⟨hc0, hf0⟩ := hV.c0
  have hlk := hV.2.2.look hs
  obtain ⟨S, hS⟩ : ∃ S, S = F s.data.toList := ⟨_, rfl⟩
  rw [← hS] at hT hl ⊢
  by_cases hft : fr > tt
  · have hz : btw S fr tt = [] := List.filter_eq_nil_iff.2 fun m hm => by simp; omega
    have HFIN : Hid (BtOut W s (btw S fr tt) (.returned (.slice none 0 0)) W) := by
      rw [hz]
      exact ⟨none, 0, rfl, World.ownsRow_nil _ _ _ _, Below.refl _ _⟩
    clear hV hlk hT hl hS hz
    go_enter Tryd.func14, Tryd.ntmps14
    go_wp2_with fail
    go_ret
    exact unhide HFIN
  · have hft' : fr ≤ tt := by omega
    obtain ⟨p, c, hv, hp0, hp1⟩ := row_slice (hV.2.2.row s.data.toList)
    rw [← hS] at hv hp0 hp1
    rw [hv] at hlk
    have hli : Lies kM W p S := own_lies kM_ok rfl (by have := hV.2.2.row s.data.toList; rw [hv, ← hS] at this; exact this)
    have dA := hide (ahead_any S hT.up (by omega) p c fr W hli)
    have HLI := hide hli; have HT := hide hT
    obtain ⟨N, hN⟩ : ∃ N, N = S.length := ⟨_, rfl⟩
    have HN := hide hN
    rw [← hN] at dA hlk hl hp0 hp1
    have HP0 := hide hp0; have HP1 := hide hp1
    clear hV hli hT hv hS hN hp0 hp1
    go_enter Tryd.func14, Tryd.ntmps14
    go_wp2_with fail
    refine (unhide dA).mono ?_
    rintro e w1 ⟨a, rfl, ha, ha1, ha2, hb1⟩
    have dU := hide (upto_any S (unhide HT).up (by rw [← unhide HN]; omega) p c tt w1 ((unhide HLI).below hb1))
    rw [← unhide HN] at dU
    have HA1 := hide (And.intro ha1 ha2); have HB1 := hide hb1
    clear ha1 ha2 hb1 dA
    go_wp2_with fail
    refine (unhide dU).mono ?_
    rintro e w2 ⟨b, rfl, hb, hb1', hb2', hb2⟩
    obtain ⟨hab, hbtw⟩ := btw_is hft' (by rw [← unhide HN]; exact ha) (by rw [← unhide HN]; exact hb) (unhide HA1).1 (by rw [← unhide HN]; exact (unhide HA1).2) hb1' (by rw [← unhide HN]; exact hb2')
    have hB2 : Below W.heap.size W w2 := (unhide HB1).trans (hb2.mono (unhide HB1).size)
    have HB2 := hide hB2; have HBT := hide hbtw
    have dR : Hid (∀ (q : Option Addr) (m cS : Nat) (L' : List Mk), Lies kM w2 q L' → L'.length = m → L' = btw S fr tt → Calls Tryd.prog 23 #[.slice none 0 0, .string s, .slice q m cS] w2 fun e w' => BtOut W s (btw S fr tt) e w') := fun q m cS L' h1 h2 h3 => by
      have hm : m ≤ 1099511627776 := by
        rw [← h2, h3]
        have := List.length_filter_le (fun m : Mk => decide (fr ≤ m.1) && decide (m.1 ≤ tt)) S
        unfold btw
        rw [← unhide HN] at this
        omega
      refine (rows_any (w0 := w2) (W := w2) (Below.refl _ _) (L := []) (n := 0) rfl (World.ownsRow_nil _ _ _ _) s (cS := cS) h2 h1 (by omega)).mono ?_
      rintro e w' ⟨p', c', rfl, h5, h6⟩
      subst h3
      rw [List.length_nil, Nat.zero_add] at h5 ⊢
      rw [List.nil_append] at h5
      exact ⟨p', c', rfl, row_le h5 (unhide HB2).size, (unhide HB2).trans (h6.mono (unhide HB2).size)⟩
    have HL2 := hide ((unhide HLI).below hB2)
    clear hb1' hb2' hb2 hB2 hbtw dU
    have hSl : Hid (S.length = N) := (unhide HN).symm
    cases p with
    | none =>
      obtain ⟨h1, h2⟩ := unhide HP0 rfl
      subst h1 h2
      have hb0 : b = 0 := by omega
      have ha0 : a = 0 := by omega
      subst hb0 ha0
      have hS0 : S = [] := List.eq_nil_of_length_eq_zero (unhide hSl)
      have dQ := hide (unhide dR none 0 0 [] (Lies.nil _ _) rfl (by rw [hS0]; rfl))
      clear dR hS0
      go_wp2_with fail
      refine (unhide dQ).mono ?_
      intro e w' hO
      obtain ⟨pO, cO, rfl, hO2⟩ := hO
      have HO := hide hO2
      clear hO2 dQ
      go_wp2_with fail
      go_ret
      exact ⟨pO, cO, rfl, unhide HO⟩
    | some ad =>
      obtain ⟨h1, h2, _, hNc⟩ := unhide HP1 ad rfl
      obtain ⟨bS, oS, sS⟩ := ad
      simp only at h1 h2
      subst h1 h2
      by_cases hca : c = a
      · subst hca
        have hbc : b = c := by omega
        subst hbc
        have hz : (S.drop b).take (b - b) = [] := by simp
        have dQ := hide (unhide dR (some ⟨bS, 0, none⟩) 0 0 [] (Lies.nil _ _) rfl (by rw [← unhide HBT, hz]))
        clear dR hz
        go_wp2_with fail
        refine (unhide dQ).mono ?_
        intro e w' hO
        obtain ⟨pO, cO, rfl, hO2⟩ := hO
        have HO := hide hO2
        clear hO2 dQ
        go_wp2_with fail
        go_ret
        exact ⟨pO, cO, rfl, unhide HO⟩
      · have hpt := (unhide HL2).part a (b - a)
        have hlen : ((S.drop a).take (b - a)).length = b - a := by rw [List.length_take, List.length_drop, unhide hSl]; omega
        have dQ := hide (unhide dR (some ⟨bS, 0 + a * 3, none⟩) (b - a) (c - a) _ hpt hlen (unhide HBT))
        rw [Nat.zero_add] at dQ
        clear dR hpt hlen
        go_wp2_with fail
        refine (unhide dQ).mono ?_
        intro e w' hO
        obtain ⟨pO, cO, rfl, hO2⟩ := hO
        have HO := hide hO2
        clear hO2 dQ
        go_wp2_with fail
        go_ret
        exact ⟨pO, cO, rfl, unhide HO⟩
end Go.Proofs.YtenoaechonpjgaaDoor
