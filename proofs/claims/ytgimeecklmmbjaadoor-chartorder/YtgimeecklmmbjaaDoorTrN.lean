/- chart: the tree walked through level by level, and paths; no program in it. -/
import Derived.Test.YtgimeecklmmbjaaDoorChN
namespace Go.Proofs.YtgimeecklmmbjaaDoor
open Go
set_option linter.unusedVariables false
theorem len_of_sub {l m : List Nm} (hl : l.Nodup) (hs : ∀ x ∈ l, x ∈ m) (hm : m.Nodup) : l.length ≤ m.length := by
  have hp : l.Perm (m.filter fun x => decide (x ∈ l)) := by
    rw [List.perm_ext_iff_of_nodup hl (hm.filter _)]
    intro x
    rw [List.mem_filter]
    constructor
    · exact fun h => ⟨hs x h, by simpa using h⟩
    · exact fun h => by simpa using h.2
  rw [hp.length_eq]
  exact List.length_filter_le _ _
theorem bf_nodup {L : List Ac} (hG : Good L) {T : List Nm} (hT : T.Nodup) (h0 : [] ∉ T) : (kids L [] ++ T.flatMap (kids L)).Nodup := by
  have e : kids L [] ++ T.flatMap (kids L) = ([] :: T).flatMap (kids L) := by rw [List.flatMap_cons]
  rw [e]
  have h1 : (([] : Nm) :: T).Nodup := List.nodup_cons.2 ⟨h0, hT⟩
  unfold List.Nodup
  rw [List.pairwise_flatMap]
  refine ⟨fun x _ => rise_nodup (hG.kids_rise x), h1.imp fun {x y} hxy a ha b hb hab => ?_⟩
  subst hab
  exact hxy ((mem_kids.1 ha).2.symm.trans (mem_kids.1 hb).2)
/-- the names met so far, the first n of them gone through -/
structure Bf (L : List Ac) (Q : List Nm) (n : Nat) : Prop where
  le : n ≤ Q.length
  eq : Q = kids L [] ++ (Q.take n).flatMap (kids L)
  nd : Q.Nodup
theorem Bf.mem {L : List Ac} {Q : List Nm} {n : Nat} (h : Bf L Q n) {y : Nm} (hy : y ∈ Q) : ∃ a ∈ L, a.nm = y := by
  rw [h.eq, List.mem_append, List.mem_flatMap] at hy
  rcases hy with hy | ⟨x, _, hy⟩
  · exact (mem_kids.1 hy).1
  · exact (mem_kids.1 hy).1
theorem bf_zero {L : List Ac} (hG : Good L) : Bf L (kids L []) 0 := ⟨Nat.zero_le _, by simp, rise_nodup (hG.kids_rise [])⟩
theorem Bf.step {L : List Ac} (hG : Good L) {Q : List Nm} {n : Nat} (h : Bf L Q n) (hn : n < Q.length) : Bf L (Q ++ kids L Q[n]) (n + 1) := by
  have e : Q ++ kids L Q[n] = kids L [] ++ (Q.take (n + 1)).flatMap (kids L) := by
    rw [← List.take_append_getElem hn, List.flatMap_append, ← List.append_assoc, ← h.eq]
    simp
  refine ⟨by rw [List.length_append]; omega, ?_, ?_⟩
  · rw [List.take_append_of_le_length (by omega)]
    exact e
  · rw [e]
    refine bf_nodup hG (h.nd.sublist (List.take_sublist _ _)) (fun h0 => ?_)
    obtain ⟨a, ha, hn⟩ := h.mem (List.mem_of_mem_take h0)
    exact name_ne (hG.name a ha) hn
theorem Bf.len {L : List Ac} (hG : Good L) {Q : List Nm} {n : Nat} (h : Bf L Q n) : Q.length ≤ L.length := by
  have hm : (L.map (·.nm)).length = L.length := List.length_map ..
  rw [← hm]
  refine len_of_sub h.nd (fun x hx => ?_) (rise_nodup hG.names_rise)
  obtain ⟨a, ha, hn⟩ := h.mem hx
  exact List.mem_map.2 ⟨a, ha, hn⟩
theorem Bf.all {L : List Ac} (hG : Good L) {Q : List Nm} (h : Bf L Q Q.length) : ∀ (n : Nat) (a : Ac), a ∈ L → a.nm.length ≤ n → a.nm ∈ Q
  | n, a, ha, hn => by
    have he := h.eq
    rw [List.take_length] at he
    rw [he, List.mem_append, List.mem_flatMap]
    rcases ups_cases a.nm with e | ⟨p, e, hp, _⟩
    · left
      rw [mem_kids]
      exact ⟨⟨a, ha, rfl⟩, by rw [par, e]; rfl⟩
    · right
      obtain ⟨b, hb, hbp, _⟩ := hG.up a ha p _ e
      cases n with
      | zero => omega
      | succ n =>
        have h1 := h.all hG n b hb (by rw [hbp]; omega)
        exact ⟨b.nm, h1, mem_kids.2 ⟨⟨a, ha, rfl⟩, by rw [par, e, hbp]; rfl⟩⟩
theorem Bf.full {L : List Ac} (hG : Good L) {Q : List Nm} (h : Bf L Q Q.length) : Q.length = L.length := by
  refine Nat.le_antisymm (h.len hG) ?_
  have hm : (L.map (·.nm)).length = L.length := List.length_map ..
  rw [← hm]
  refine len_of_sub (rise_nodup hG.names_rise) (fun x hx => ?_) h.nd
  obtain ⟨a, ha, rfl⟩ := List.mem_map.1 hx
  exact h.all hG _ a ha (Nat.le_refl _)
theorem path_is {L : List Ac} (hG : Good L) {a : Ac} (ha : a ∈ L) : pathL a.nm = a.nm :: ups a.nm := by rw [pathL, if_pos (hG.name a ha)]
/-- of one above another: the same type, and closed only if that is -/
theorem path_up {L : List Ac} (hG : Good L) : ∀ (n : Nat) (a b : Ac), a ∈ L → b ∈ L → a.nm.length ≤ n → b.nm ∈ pathL a.nm → b.ty = a.ty ∧ (b.cl = true → a.cl = true)
  | n, a, b, ha, hb, hn, hin => by
    rw [path_is hG ha] at hin
    rcases List.mem_cons.1 hin with e | hin
    · rw [hG.one hb ha e]
      exact ⟨rfl, id⟩
    · rcases ups_cases a.nm with e | ⟨p, e, hp, _⟩
      · rw [e] at hin
        cases hin
      · obtain ⟨c, hc, hcp, hct, _, hcc⟩ := hG.up a ha p _ e
        rw [e] at hin
        cases n with
        | zero => omega
        | succ n =>
          have h1 := path_up hG n c b hc hb (by rw [hcp]; omega) (by rw [path_is hG hc, hcp]; exact hin)
          exact ⟨h1.1.trans hct, fun h => hcc (h1.2 h)⟩
theorem rise_get {L : List Ac} (hG : Good L) {i j : Nat} (hij : i < j) (hj : j < L.length) : (L[i]'(by omega)).nm < L[j].nm := (List.pairwise_iff_getElem.1 hG.rise) i j (by omega) hj hij
end Go.Proofs.YtgimeecklmmbjaaDoor
