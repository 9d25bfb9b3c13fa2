/- daily: State (10). -/
import Derived.Test.YtenoaechonpjgaaDoorDlK
import Derived.Test.YtenoaechonpjgaaDoorIter
import Derived.Sort.KeysCollected
namespace Go.Proofs.YtenoaechonpjgaaDoor
open Go Go.Shelf Go.ChangeShapes Go.WideShapes Go.ChangeAt Go.RowKit Go.Maps Go.Sort
set_option linter.unusedVariables false
/-- names in their order -/
def srt (l : List (List UInt8)) : List (List UInt8) := l.mergeSort (fun x y => decide (x ≤ y))
theorem srt_perm (l : List (List UInt8)) : (srt l).Perm l := List.mergeSort_perm _ _
/-- what State tells of names -/
def stl (F : List UInt8 → List Mk) (ss : List (List UInt8)) : List Dr := ss.flatMap fun k => (F k).map fun m => (⟨k.toArray⟩, m)
theorem stl_append (F : List UInt8 → List Mk) (a b : List (List UInt8)) : stl F (a ++ b) = stl F a ++ stl F b := List.flatMap_append
theorem strKeys_mem {H : Type} {R : Value → Option (DataW H × List MemPlace)} {w : World} {b n : Nat} {D : DataW H} (h : w.ownsMap Tryd.prog 9 R b n D) : (strKeys D).Nodup ∧ ∀ x, x ∈ strKeys D ↔ has D (.string x) = true := by
  obtain ⟨es, he, hp⟩ := h.tidy (string_keyed Tryd.underlying9)
  obtain ⟨es', he', hk⟩ := h.keysOf
  rw [he] at he'
  injection he' with he'
  subst he'
  subst he
  have hs : ∀ p ∈ es, ∃ x, p.1 = .string x := fun p hp => by
    obtain ⟨key, hkey⟩ := hk p hp
    obtain ⟨x, _, hx, _⟩ := Maps.keyOf_str Tryd.underlying9 hkey
    exact ⟨x, hx⟩
  have e : strKeys (.map es : DataW H) = es.map (fun p => strOf p.1) := rfl
  rw [e]
  clear hk h e
  constructor
  · rw [List.nodup_iff_pairwise_ne, List.pairwise_map]
    refine List.Pairwise.imp_of_mem ?_ hp
    intro p q hpm hqm hne e
    obtain ⟨x, hx⟩ := hs p hpm
    obtain ⟨y, hy⟩ := hs q hqm
    rw [hx, hy] at e
    simp only [strOf] at e
    exact hne (by rw [hx, hy, e])
  · intro x
    rw [has_eq, List.mem_map, List.any_eq_true]
    constructor
    · rintro ⟨p, hpm, rfl⟩
      obtain ⟨y, hy⟩ := hs p hpm
      exact ⟨p, hpm, by rw [hy]; simp [strOf, Lit.sameKey]⟩
    · rintro ⟨p, hpm, hq⟩
      obtain ⟨y, hy⟩ := hs p hpm
      refine ⟨p, hpm, ?_⟩
      rw [hy] at hq ⊢
      simpa [strOf, Lit.sameKey] using hq
def kS : Kd (List UInt8) := ⟨fun k => [encStr k], 1, 63, 9, 16⟩
theorem kS_ok : KdOK kS := kd_ok (fun _ => rfl) (by decide) (fun x u hu => by simp [kS] at hu; subst hu; rfl) Tryd.underlying63 (z := .string ⟨#[]⟩) (by kernel_rfl) rfl (by decide)
theorem kS_flat (l : List (List UInt8)) : kS.flat l = l.map encStr := by
  induction l with
  | nil => rfl
  | cons a l ih =>
    have e : kS.flat (a :: l) = [encStr a] ++ kS.flat l := rfl
    rw [e, ih]
    rfl
theorem zero55 (w : World) : (zeroValue 55).run Tryd.prog w = .ok (.slice none 0 0) w := by kernel_rfl
/-- what State hands out -/
def StOut (W : World) (F : List UInt8 → List Mk) (e : Ending) (w' : World) : Prop :=
  ∃ ss p c, ss.Nodup ∧ (∀ k, k ∈ ss ↔ F k ≠ []) ∧ e = .returned (.slice p (stl F (srt ss)).length c) ∧ w'.ownsRow W.heap.size 44 4 (.slice p (stl F (srt ss)).length c) (stl F (srt ss)).length (kD.flat (stl F (srt ss))) ∧ Below W.heap.size W w'
set_option maxRecDepth 100000 in
set_option maxHeartbeats 4000000 in
theorem state_any {W : World} {B d n : Nat} {mo : Option Nat} {F : List UInt8 → List Mk} {V : List UInt8 → Value} (hV : DvAt W B d n mo F V) (hB : B ≤ W.heap.size) (hn : n ≤ 1099511627776) (hlen : ∀ k, F k ≠ [] → k.length ≤ maxLen) (hT : ∀ ss : List (List UInt8), ss.Nodup → (stl F ss).length ≤ 1099511627776) :
    Calls Tryd.prog 10 #[.pointer (some ⟨d, 0, none⟩)] W fun e w' => StOut W F e w' := by
  obtain ⟨hc0, hf0⟩ := hV.c0
  have hdW : d < W.heap.size := Nat.lt_of_lt_of_le hV.2.1 hB
  have dK := hide ((callsIn_wide (n := 5)).1 (Tryd.maps_Keys_22 mo W))
  have hbA : Below W.heap.size W (W.alloc (.cells #[.map mo] 46)) := bal (Below.refl _ _) _
  have dS : Hid (Calls Tryd.prog 21 #[.func (.func 36) #[] #[.pointer (some ⟨W.heap.size, 0, none⟩)]] (W.alloc (.cells #[.map mo] 46)) fun e w' => ∃ (v : Value) (ss : List (List UInt8)), e = .returned v ∧ (ss.Nodup ∧ ∀ k, k ∈ ss ↔ F k ≠ []) ∧
      w'.ownsRow W.heap.size 9 1 v ss.length ((srt ss).map encStr) ∧ Below W.heap.size W w') := by
    rcases hV.2.2 with ⟨rfl, hF0, _⟩ | ⟨b, D, rfl, _, hA⟩
    · refine ((callsIn_wide (n := 5)).1 (Tryd.slices_Sorted_keys_nil_21_22 W)).mono ?_
      rintro e w' ⟨v, ss, rfl, rfl, hrow, _, hb⟩
      exact ⟨v, [], rfl, ⟨List.nodup_nil, fun k => by simp [hF0]⟩, row_le hrow hbA.size, hbA.trans (hb.mono hbA.size)⟩
    · have hsz : Maps.size D ≤ n := hA.map.size_le
      have hkm := strKeys_mem hA.map
      refine ((callsIn_wide (n := 5)).1 (Tryd.slices_Sorted_keys_21_22 b n D sliceElem W hA.map (by unfold maxLen; omega) (by omega))).mono ?_
      rintro e w' ⟨v, ss, rfl, hS, hrow, _, hb⟩
      exact ⟨v, ss, rfl, ⟨hS.nodup_iff.2 hkm.1, fun k => by rw [hS.mem_iff, hkm.2, hA.key]⟩, row_le hrow hbA.size, hbA.trans (hb.mono hbA.size)⟩
  have HV := hide hV; have HLEN := hide hlen; have HT := hide hT; have HDW := hide hdW
  clear hV hlen hT hbA
  go_enter Tryd.func10, Tryd.ntmps10
  go_wp2_with fail
  refine (unhide dK).mono ?_
  rintro e wx ⟨rfl, hwx⟩
  rw [hwx]
  clear hwx wx dK
  go_wp2_with fail
  refine (unhide dS).mono ?_
  rintro e w1 ⟨v, ss, rfl, hss, hrow, hb1⟩
  obtain ⟨pn, cn, hvn, hpn0, hpn1⟩ := row_slice hrow
  subst hvn
  obtain ⟨N, hN⟩ : ∃ N, N = ss.length := ⟨_, rfl⟩
  have hNN : (srt ss).length = N := by rw [hN]; exact (srt_perm ss).length_eq
  obtain ⟨nn, hnn⟩ : ∃ nn, nn = srt ss := ⟨_, rfl⟩
  rw [← hnn] at hrow hNN
  rw [← hN] at hrow ⊢
  have hnd : nn.Nodup := by rw [hnn]; exact (srt_perm ss).nodup_iff.2 hss.1
  have hnm : ∀ k ∈ nn, F k ≠ [] := fun k hk => (hss.2 k).1 ((srt_perm ss).mem_iff.1 (by rw [← hnn]; exact hk))
  have hNb : N ≤ 9223372036854775807 := by
    rcases hrow.2 with ⟨_, h2⟩ | ⟨g, cap, cur, _, _, _, h3, h4, _⟩
    · omega
    · unfold maxLen at h4; omega
  have HSS := hide hss; have HROW := hide hrow; have HB1 := hide hb1; have HNN := hide hNN; have HND := hide hnd; have HNM := hide hnm; have HNS := hide hnn
  clear hss hrow hb1 hpn0 hpn1 hN dS hNN hnd hnm hnn
  go_wp2_with fail
  go_loopw [3, 13] (fun v3 v13 wr => ∃ (j m c3 : Nat) (p3 : Option Addr), v13 = .int .i64 j ∧ v3 = .slice p3 m c3 ∧ j ≤ N ∧ Hid ((stl F (nn.take j)).length = m ∧ wr.ownsRow w1.heap.size 44 4 (.slice p3 m c3) m (kD.flat (stl F (nn.take j))) ∧ Below w1.heap.size w1 wr)) (fun _ v13 _ => N - (intOf v13).toNat)
  case atStart => exact ⟨0, 0, 0, none, rfl, rfl, by omega, rfl, World.ownsRow_nil _ _ _ _, Below.refl _ _⟩
  case round =>
    obtain ⟨j, m, c3, p3, rfl, rfl, hj, hrel⟩ := hrel
    obtain ⟨hm, hown, hbel⟩ := unhide hrel
    by_cases hjN : j < N
    · have hjn : j < nn.length := by rw [unhide HNN]; exact hjN
      obtain ⟨k, hk⟩ : ∃ k, k = nn[j] := ⟨_, rfl⟩
      have hkm : k ∈ nn := by rw [hk]; exact List.getElem_mem hjn
      have hFk := unhide HNM k hkm
      have hls : Lies kS w1 pn nn := own_lies kS_ok (unhide HNN) (by rw [kS_flat]; exact unhide HROW)
      obtain ⟨gn, on, epn, hgn, hrn⟩ := hls.2 j hjn
      subst epn
      have hcn : wr.cell? ⟨gn, on + j, none⟩ = some (.string ⟨k.toArray⟩) := by
        have h1 := hrn 0 (encStr nn[j]) rfl
        rw [← hk] at h1
        have h2 := (hbel.cell (p := ⟨gn, on + j, none⟩) hgn).trans (by simpa [kS] using h1)
        exact h2
      obtain ⟨b, D, hmo, hA⟩ : ∃ b D, mo = some b ∧ MSAt kM W B b n D F V := by
        rcases (unhide HV).2.2 with ⟨_, hF0, _⟩ | ⟨b, D, e, _, hA⟩
        · exact absurd (hF0 k) hFk
        · exact ⟨b, D, e, hA⟩
      subst hmo
      have hA1 := hA.below (unhide HB1)
      have hA2 := hA1.below hbel
      have hs : (⟨k.toArray⟩ : ByteArray).size ≤ maxLen := by
        have := unhide HLEN k hFk
        show k.toArray.size ≤ maxLen
        simpa using this
      have hkk : (⟨k.toArray⟩ : ByteArray).data.toList = k := by simp
      have hlk := hA2.look (t := 46) und46 (zero55 wr) hs
      rw [hkk] at hlk
      have hcd : wr.cell? ⟨d, 0, none⟩ = some (.map (some b)) := by
        have hz1 := (unhide HB1).size
        exact (hbel.cell (p := ⟨d, 0, none⟩) (by have := unhide HDW; show d < _; omega)).trans (((unhide HB1).cell (p := ⟨d, 0, none⟩) (unhide HDW)).trans hc0)
      obtain ⟨q, cS, hvS, _, _⟩ := row_slice (hA1.row k)
      rw [hvS] at hlk
      obtain ⟨mS, hmS⟩ : ∃ mS, (F k).length = mS := ⟨_, rfl⟩
      have hlS : Lies kM w1 q (F k) := own_lies kM_ok rfl (by rw [← hvS]; exact hA1.row k)
      rw [hmS] at hlk
      have etk : nn.take (j + 1) = nn.take j ++ [k] := by rw [List.take_succ_eq_append_getElem hjn, hk]
      have estl : stl F (nn.take (j + 1)) = stl F (nn.take j) ++ (F k).map (fun m => (⟨k.toArray⟩, m)) := by
        rw [etk, stl_append]
        simp [stl]
      have hbnd : m + mS ≤ 1099511627776 := by
        have h1 := unhide HT (nn.take (j + 1)) ((unhide HND).sublist (List.take_sublist _ _))
        rw [estl, List.length_append, List.length_map, hm, hmS] at h1
        exact h1
      have dR := hide (rows_any hbel hm hown ⟨k.toArray⟩ (cS := cS) hmS hlS hbnd)
      have HUP : Hid (∀ e w', RowsOut w1 (stl F (nn.take j)) ⟨k.toArray⟩ (F k) e w' → ∃ p' c', e = .returned (.slice p' (m + mS) c') ∧ (stl F (nn.take (j + 1))).length = m + mS ∧ w'.ownsRow w1.heap.size 44 4 (.slice p' (m + mS) c') (m + mS) (kD.flat (stl F (nn.take (j + 1)))) ∧ Below w1.heap.size w1 w') := fun e w' ⟨p', c', h1, h2, h3⟩ => by
        rw [hm, hmS] at h1 h2
        refine ⟨p', c', h1, ?_, ?_, h3⟩
        · rw [estl, List.length_append, List.length_map, hm, hmS]
        · rw [estl]; exact h2
      clear hm hown hbel hrel hls hrn hA hA1 hA2 hlS etk estl hkm hFk hs hkk hvS hk hmS hjn
      go_wp2_with fail
      refine (unhide dR).mono ?_
      intro e w' hO
      obtain ⟨p', c', rfl, h2, h3, h4⟩ := unhide HUP e w' hO
      have HF := hide (And.intro h2 (And.intro h3 h4))
      clear hO h2 h3 h4 dR HUP
      go_wp2_with fail
      refine ⟨⟨j + 1, m + mS, c', p', by simp, rfl, by omega, unhide HF⟩, by simp [intOf]; omega⟩
    · have ej : j = N := by omega
      subst ej
      have eT : nn.take j = nn := List.take_of_length_le (by rw [unhide HNN]; omega)
      rw [eT] at hm hown
      have HFIN : Hid (StOut W F (.returned (.slice p3 m c3)) wr) := by
        refine ⟨ss, p3, c3, (unhide HSS).1, (unhide HSS).2, ?_, ?_, (unhide HB1).trans (hbel.mono (unhide HB1).size)⟩
        · rw [← unhide HNS, hm]
        · rw [← unhide HNS, hm]; exact row_le hown (unhide HB1).size
      clear hm hown hbel hrel eT hjN
      go_wp2_with fail
      go_ret
      exact unhide HFIN
end Go.Proofs.YtenoaechonpjgaaDoor
