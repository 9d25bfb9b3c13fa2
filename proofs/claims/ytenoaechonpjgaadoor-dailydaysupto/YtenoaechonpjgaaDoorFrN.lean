/- daily: a state's list read as rows again. -/
import Derived.Test.YtenoaechonpjgaaDoorDlV
namespace Go.Proofs.YtenoaechonpjgaaDoor
open Go Go.Shelf Go.ChangeShapes Go.WideShapes Go.ChangeAt Go.RowKit Go.Maps Go.Sort
set_option linter.unusedVariables false
/-- the row that From makes of a day -/
def dRo (x : Dr) : Ro := ⟨0, 0, x.2.1, 0, ⟨#[]⟩, x.1, x.2.2.1, ⟨#[]⟩, ⟨#[]⟩⟩
theorem tol_one (k n : List UInt8) : ∀ S : List Mk, tol ((S.map fun m => ((⟨n.toArray⟩ : ByteArray), m)).map dRo) k = if n = k then tld S else []
  | [] => by simp [tol, tld]
  | m :: S => by
    have ih := tol_one k n S
    rw [List.map_cons, List.map_cons, tol_cons, ih]
    have e : (dRo ((⟨n.toArray⟩ : ByteArray), m)).acc.data.toList = n := by simp [dRo]
    rw [e]
    by_cases h : n = k
    · rw [if_pos h, if_pos h, if_pos h]; rfl
    · rw [if_neg h, if_neg h, if_neg h]; rfl
theorem tol_stl (F : List UInt8 → List Mk) (k : List UInt8) : ∀ ss : List (List UInt8), ss.Nodup → tol ((stl F ss).map dRo) k = if k ∈ ss then tld (F k) else []
  | [], _ => by simp [stl, tol]
  | s :: ss, hn => by
    rw [List.nodup_cons] at hn
    have ih := tol_stl F k ss hn.2
    have e : stl F (s :: ss) = ((F s).map fun m => (⟨s.toArray⟩, m)) ++ stl F ss := by simp [stl]
    rw [e, List.map_append, tol_append, ih, tol_one]
    by_cases h : s = k
    · subst h
      rw [if_pos rfl, if_neg hn.1, if_pos List.mem_cons_self, List.append_nil]
    · rw [if_neg h, List.nil_append]
      by_cases h2 : k ∈ ss
      · rw [if_pos h2, if_pos (List.mem_cons_of_mem _ h2)]
      · rw [if_neg h2, if_neg (fun hm => by rcases List.mem_cons.1 hm with e | e
                                            · exact h e.symm
                                            · exact h2 e)]
theorem stt_own {R : List Ro} {L : List Dr} (h : Stt R L) (k : List UInt8) (d : Int) : own (tol (L.map dRo) k) d = own (tol R k) d := by
  obtain ⟨F, ss, h1, h2, h3, rfl⟩ := h
  have hn : (srt ss).Nodup := (srt_perm ss).nodup_iff.2 h2
  rw [tol_stl F k _ hn]
  by_cases hk : k ∈ srt ss
  · rw [if_pos hk]
    exact (h1 k).own_tld d
  · rw [if_neg hk, own_nil]
    have hF : F k = [] := by
      by_cases hF : F k = []
      · exact hF
      · exact absurd ((srt_perm ss).mem_iff.2 ((h3 k).2 hF)) hk
    by_cases ho : own (tol R k) d = 0
    · exact ho.symm
    · obtain ⟨m, hm, _⟩ := (h1 k).all d ho
      rw [hF] at hm
      cases hm
theorem own_day {T : Td} {d : Int} (h : own T d ≠ 0) : ∃ r ∈ T, r.1 = d := by
  by_cases he : ∃ r ∈ T, r.1 = d
  · exact he
  · exact absurd (own_none fun r hr e => he ⟨r, hr, e⟩) h
theorem stt_mem {R : List Ro} {L : List Dr} (h : Stt R L) {x : Dr} (hx : x ∈ L) : (∃ r ∈ R, r.acc = x.1 ∧ r.day = x.2.1) ∧ x.2.2.1 = own (tol R x.1.data.toList) x.2.1 := by
  obtain ⟨F, ss, h1, h2, h3, rfl⟩ := h
  obtain ⟨k, hk, hm⟩ := List.mem_flatMap.1 hx
  obtain ⟨m, hmF, rfl⟩ := List.mem_map.1 hm
  obtain ⟨i1, i2, i3⟩ := (h1 k).is m hmF
  have e : ((⟨k.toArray⟩ : ByteArray), m).1.data.toList = k := by simp
  rw [e]
  refine ⟨?_, i1⟩
  rw [i1] at i2
  obtain ⟨y, hy, e2⟩ := own_day i2
  obtain ⟨r, hr, e3, e4⟩ := tol_mem hy
  refine ⟨r, hr, ?_, ?_⟩
  · apply ByteArray.ext
    apply Array.ext'
    simpa using e3
  · rw [← e4] at e2
    exact e2
theorem Stt.rows {R : List Ro} {L : List Dr} (h : Stt R L) (hc : Can R) (hok : ∀ r ∈ R, okR r) (hf : ∀ k, fitT (tol R k)) : Can (L.map dRo) ∧ (∀ r ∈ L.map dRo, okR r) ∧ ∀ k, fitT (tol ([] ++ L.map dRo) k) := by
  refine ⟨⟨fun r hr => ?_, fun r hr => ?_⟩, fun r hr => ?_, fun k => ?_⟩
  · obtain ⟨x, hx, rfl⟩ := List.mem_map.1 hr
    obtain ⟨⟨q, hq, e1, e2⟩, e3⟩ := stt_mem h hx
    show x.1.size < _
    rw [← e1]
    exact hc.acc q hq
  · obtain ⟨x, hx, rfl⟩ := List.mem_map.1 hr
    obtain ⟨_, e3⟩ := stt_mem h hx
    have := (hf x.1.data.toList x.2.1).1
    show -9223372036854775808 ≤ x.2.2.1 ∧ x.2.2.1 ≤ 9223372036854775807
    rw [e3]
    unfold isA at this
    omega
  · obtain ⟨x, hx, rfl⟩ := List.mem_map.1 hr
    obtain ⟨⟨q, hq, e1, e2⟩, e3⟩ := stt_mem h hx
    have ho := hok q hq
    have := (hf x.1.data.toList x.2.1).1
    unfold okR at ho
    rw [e1, e2] at ho
    refine ⟨ho.1, ho.2.1, ho.2.2.1, ?_⟩
    show -9223372036854775807 ≤ x.2.2.1
    rw [e3]
    exact this.1
  · rw [List.nil_append]
    exact (hf k).same fun d => (stt_own h k d).symm
end Go.Proofs.YtenoaechonpjgaaDoor
