/- chart: accounts as a list by rising name; no program in it. -/
import Derived.Test.YtgimeecklmmbjaaDoorPthN
namespace Go.Proofs.YtgimeecklmmbjaaDoor
open Go
set_option linter.unusedVariables false
abbrev Nm := List UInt8
/-- an account -/
structure Ac where
  nm : Nm
  ty : Int
  dy : Int
  cl : Bool
theorem ups_cases (x : Nm) : ups x = [] ∨ ∃ p, ups x = p :: ups p ∧ p.length < x.length ∧ (nameL x = true → nameL p = true) := by
  by_cases h : x.contains 58 = true
  · right
    obtain ⟨j, hj, _, hu, hn⟩ := ups_some ⟨x.toArray⟩ (by simpa using h)
    have e : (⟨x.toArray⟩ : ByteArray).data.toList = x := by simp
    rw [e] at hu hn
    refine ⟨_, hu, ?_, hn⟩
    have : j < x.length := by simpa [ByteArray.size] using hj
    rw [List.length_take]
    omega
  · left
    exact ups_none x (by simpa using h)
theorem name_ne {x : Nm} (h : nameL x = true) : x ≠ [] := by
  rintro rfl
  revert h
  decide
/-- the name right above; of a root the empty one -/
def par (x : Nm) : Nm := (ups x).headD []
/-- all that stands above, up to the top -/
def anc (x : Nm) : List Nm := ups x ++ [[]]
theorem par_lt {x : Nm} (h : x ≠ []) : (par x).length < x.length := by
  rcases ups_cases x with e | ⟨p, e, hp, _⟩
  · rw [par, e]
    exact List.length_pos_iff.2 h
  · rw [par, e]
    exact hp
theorem anc_root {x : Nm} (h : ups x = []) : anc x = [[]] := by rw [anc, h]; rfl
theorem anc_step {x p : Nm} (h : ups x = p :: ups p) : anc x = p :: anc p := by rw [anc, h]; rfl
theorem anc_head (x : Nm) : (anc x)[0]? = some (par x) := by
  rcases ups_cases x with e | ⟨p, e, _⟩
  · rw [anc_root e, par, e]; rfl
  · rw [anc_step e, par, e]; rfl
theorem anc_len {x : Nm} (h : nameL x = true) : (anc x).length ≤ 6 := by
  have h1 := path_len x
  rw [pathL, if_pos h] at h1
  simp [anc] at h1 ⊢
  omega
theorem anc_short : ∀ (n : Nat) (x : Nm), x.length ≤ n → nameL x = true → ∀ y ∈ anc x, y.length < x.length
  | n, x, hn, hx, y, hy => by
    rcases ups_cases x with e | ⟨p, e, hp, hq⟩
    · rw [anc_root e] at hy
      simp at hy
      subst hy
      exact List.length_pos_iff.2 (name_ne hx)
    · rw [anc_step e] at hy
      rcases List.mem_cons.1 hy with rfl | hy
      · exact hp
      · cases n with
        | zero => omega
        | succ n =>
          have := anc_short n p (by omega) (hq hx) y hy
          omega
theorem anc_lt {x y : Nm} (hx : nameL x = true) (h : y ∈ anc x) : y.length < x.length := anc_short _ x (Nat.le_refl _) hx y h
theorem anc_next : ∀ (n : Nat) (x : Nm), x.length ≤ n → nameL x = true → ∀ (j : Nat) (z : Nm), (anc x)[j]? = some z → z ≠ [] → (anc x)[j + 1]? = some (par z) ∧ nameL z = true
  | n, x, hn, hx, j, z, hj, hz => by
    rcases ups_cases x with e | ⟨p, e, hp, hq⟩
    · rw [anc_root e] at hj
      cases j with
      | zero => simp at hj; exact (hz (by first | exact hj.symm | exact hj)).elim
      | succ j => simp at hj
    · rw [anc_step e] at hj ⊢
      cases j with
      | zero =>
        simp at hj
        subst hj
        exact ⟨by simpa using anc_head p, hq hx⟩
      | succ j =>
        cases n with
        | zero => omega
        | succ n =>
          have := anc_next n p (by omega) (hq hx) j z (by simpa using hj) hz
          simpa using this
theorem anc_down : ∀ (n : Nat) (x : Nm), x.length ≤ n → nameL x = true → ∀ (i j : Nat) (y z : Nm), (anc x)[i]? = some y → (anc x)[j]? = some z → i < j → z.length < y.length
  | n, x, hn, hx, i, j, y, z, hi, hj, hij => by
    rcases ups_cases x with e | ⟨p, e, hp, hq⟩
    · rw [anc_root e] at hj
      cases j with
      | zero => omega
      | succ j => simp at hj
    · rw [anc_step e] at hi hj
      cases j with
      | zero => omega
      | succ j =>
        simp at hj
        cases i with
        | zero =>
          simp at hi
          subst hi
          exact anc_lt (hq hx) (List.mem_of_getElem? hj)
        | succ i =>
          simp at hi
          cases n with
          | zero => omega
          | succ n => exact anc_down n p (by omega) (hq hx) i j y z hi hj (by omega)
/-- the names right below one -/
def kids (L : List Ac) (x : Nm) : List Nm := (L.filter fun a => decide (par a.nm = x)).map (·.nm)
theorem mem_kids {L : List Ac} {x y : Nm} : y ∈ kids L x ↔ (∃ a ∈ L, a.nm = y) ∧ par y = x := by
  simp only [kids, List.mem_map, List.mem_filter, decide_eq_true_eq]
  constructor
  · rintro ⟨a, ⟨h1, h2⟩, rfl⟩
    exact ⟨⟨a, h1, rfl⟩, h2⟩
  · rintro ⟨⟨a, h1, rfl⟩, h2⟩
    exact ⟨a, ⟨h1, h2⟩, rfl⟩
/-- a list of accounts that can be -/
structure Good (L : List Ac) : Prop where
  rise : L.Pairwise fun a b => a.nm < b.nm
  name : ∀ a ∈ L, nameL a.nm = true
  up : ∀ a ∈ L, ∀ p t, ups a.nm = p :: t → ∃ b ∈ L, b.nm = p ∧ b.ty = a.ty ∧ b.dy ≤ a.dy ∧ (b.cl = true → a.cl = true)
  day : ∀ a ∈ L, 1 ≤ a.dy ∧ a.dy ≤ 3652059
  typ : ∀ a ∈ L, 1 ≤ a.ty ∧ a.ty ≤ 5
  len : L.length ≤ 100
theorem Good.one {L : List Ac} (h : Good L) {a b : Ac} (ha : a ∈ L) (hb : b ∈ L) (e : a.nm = b.nm) : a = b := by
  have h1 := h.rise
  clear h
  induction L with
  | nil => cases ha
  | cons c L ih =>
    rw [List.pairwise_cons] at h1
    rcases List.mem_cons.1 ha with rfl | ha'
    · rcases List.mem_cons.1 hb with rfl | hb'
      · rfl
      · have := h1.1 b hb'
        rw [e] at this
        exact absurd this (List.lt_irrefl _)
    · rcases List.mem_cons.1 hb with rfl | hb'
      · have := h1.1 a ha'
        rw [e] at this
        exact absurd this (List.lt_irrefl _)
      · exact ih ha' hb' h1.2
theorem Good.kids_rise {L : List Ac} (h : Good L) (x : Nm) : (kids L x).Pairwise (· < ·) := by
  rw [kids, List.pairwise_map]
  exact (h.rise.filter _).imp fun h => h
/-- what stands above an account is one -/
theorem Good.above {L : List Ac} (h : Good L) : ∀ (n : Nat) (x : Nm), x.length ≤ n → (∃ a ∈ L, a.nm = x) → ∀ y ∈ anc x, y ≠ [] → ∃ a ∈ L, a.nm = y
  | n, x, hn, ⟨a, ha, hax⟩, y, hy, h0 => by
    subst hax
    rcases ups_cases a.nm with e | ⟨p, e, hp, hq⟩
    · rw [anc_root e] at hy
      simp at hy
      exact absurd hy h0
    · obtain ⟨b, hb, hbp, _⟩ := h.up a ha p _ e
      rw [anc_step e] at hy
      rcases List.mem_cons.1 hy with rfl | hy
      · exact ⟨b, hb, hbp⟩
      · cases n with
        | zero => omega
        | succ n => exact h.above n p (by omega) ⟨b, hb, hbp⟩ y hy h0
/-- all below one, each ahead of those below it -/
def desc (L : List Ac) : Nat → Nm → List Nm
  | 0, _ => []
  | k + 1, x => (kids L x).flatMap fun y => y :: desc L k y
theorem mem_desc {L : List Ac} (h : Good L) : ∀ (k : Nat) (y x : Nm), x ∈ desc L k y ↔ (∃ a ∈ L, a.nm = x) ∧ y ∈ (anc x).take k
  | 0, y, x => by simp [desc]
  | k + 1, y, x => by
    rw [desc, List.mem_flatMap]
    constructor
    · rintro ⟨z, hz, hx⟩
      rw [mem_kids] at hz
      obtain ⟨⟨c, hc, rfl⟩, rfl⟩ := hz
      rcases List.mem_cons.1 hx with rfl | hx
      · refine ⟨⟨c, hc, rfl⟩, ?_⟩
        have := anc_head c.nm
        exact List.mem_of_getElem? (i := 0) (by rw [List.getElem?_take_of_lt (by omega)]; exact this)
      · rw [mem_desc h k] at hx
        obtain ⟨⟨a, ha, rfl⟩, hin⟩ := hx
        refine ⟨⟨a, ha, rfl⟩, ?_⟩
        obtain ⟨j, hj⟩ := List.getElem?_of_mem hin
        have hjk : j < k := by
          have := (List.getElem?_eq_some_iff.1 hj).1
          rw [List.length_take] at this
          omega
        rw [List.getElem?_take_of_lt hjk] at hj
        have h2 := (anc_next _ a.nm (Nat.le_refl _) (h.name a ha) j c.nm hj (name_ne (h.name c hc))).1
        exact List.mem_of_getElem? (i := j + 1) (by rw [List.getElem?_take_of_lt (by omega)]; exact h2)
    · rintro ⟨⟨a, ha, rfl⟩, hin⟩
      obtain ⟨j, hj⟩ := List.getElem?_of_mem hin
      have hjk : j < k + 1 := by
        have := (List.getElem?_eq_some_iff.1 hj).1
        rw [List.length_take] at this
        omega
      rw [List.getElem?_take_of_lt hjk] at hj
      cases j with
      | zero =>
        rw [anc_head] at hj
        injection hj with hj
        exact ⟨a.nm, mem_kids.2 ⟨⟨a, ha, rfl⟩, hj⟩, List.mem_cons_self ..⟩
      | succ i =>
        have hl := (List.getElem?_eq_some_iff.1 hj).1
        obtain ⟨z, hz⟩ : ∃ z, (anc a.nm)[i]? = some z := ⟨_, List.getElem?_eq_getElem (by omega)⟩
        have hz0 : z ≠ [] := fun e => by
          have := anc_down _ a.nm (Nat.le_refl _) (h.name a ha) i (i + 1) z y hz hj (by omega)
          rw [e] at this
          simp at this
        have h2 := (anc_next _ a.nm (Nat.le_refl _) (h.name a ha) i z hz hz0).1
        rw [hj] at h2
        injection h2 with h2
        refine ⟨z, mem_kids.2 ⟨h.above _ a.nm (Nat.le_refl _) ⟨a, ha, rfl⟩ z (List.mem_of_getElem? hz) hz0, h2.symm⟩, List.mem_cons_of_mem _ ?_⟩
        rw [mem_desc h k]
        exact ⟨⟨a, ha, rfl⟩, List.mem_of_getElem? (i := i) (by rw [List.getElem?_take_of_lt (by omega)]; exact hz)⟩
theorem mem_top {L : List Ac} (h : Good L) (x : Nm) : x ∈ desc L 6 [] ↔ ∃ a ∈ L, a.nm = x := by
  rw [mem_desc h]
  constructor
  · exact fun h => h.1
  · rintro ⟨a, ha, rfl⟩
    refine ⟨⟨a, ha, rfl⟩, ?_⟩
    rw [List.take_of_length_le (anc_len (h.name a ha))]
    simp [anc]
theorem mem_below {L : List Ac} (h : Good L) (y x : Nm) : x ∈ desc L 6 y ↔ (∃ a ∈ L, a.nm = x) ∧ y ∈ anc x := by
  rw [mem_desc h]
  constructor
  · exact fun h => ⟨h.1, List.mem_of_mem_take h.2⟩
  · rintro ⟨⟨a, ha, rfl⟩, hy⟩
    exact ⟨⟨a, ha, rfl⟩, by rw [List.take_of_length_le (anc_len (h.name a ha))]; exact hy⟩
/-- of two names with one above both, on one way up: they are one -/
theorem one_way {x y z : Nm} (hx : nameL x = true) (hy : y = x ∨ y ∈ anc x) (hz : z = x ∨ z ∈ anc x) (y0 : y ≠ []) (z0 : z ≠ []) (e : par y = par z) : y = z := by
  have hnx : ∀ (i : Nat) (u : Nm), (x :: anc x)[i]? = some u → u ≠ [] → (x :: anc x)[i + 1]? = some (par u) := fun i u hi hu => by
    cases i with
    | zero => simp at hi; subst hi; simpa using anc_head x
    | succ i => simpa using (anc_next _ x (Nat.le_refl _) hx i u (by simpa using hi) hu).1
  have hdn : ∀ (i j : Nat) (u v : Nm), (x :: anc x)[i]? = some u → (x :: anc x)[j]? = some v → i < j → v.length < u.length := fun i j u v hi hj hij => by
    cases j with
    | zero => omega
    | succ j =>
      simp at hj
      cases i with
      | zero => simp at hi; subst hi; exact anc_lt hx (List.mem_of_getElem? hj)
      | succ i => exact anc_down _ x (Nat.le_refl _) hx i j u v (by simpa using hi) hj (by omega)
  obtain ⟨i, hi⟩ := List.getElem?_of_mem (List.mem_cons.2 hy)
  obtain ⟨j, hj⟩ := List.getElem?_of_mem (List.mem_cons.2 hz)
  have key : ∀ (i j : Nat) (u v : Nm), (x :: anc x)[i]? = some u → (x :: anc x)[j]? = some v → u ≠ [] → v ≠ [] → par u = par v → ¬ i < j := fun i j u v hi hj hu hv e hij => by
    have h1 := hnx i u hi hu
    have h2 := hnx j v hj hv
    have h3 := hdn (i + 1) (j + 1) _ _ h1 h2 (by omega)
    rw [e] at h3
    omega
  have : i = j := by
    have h1 := key i j y z hi hj y0 z0 e
    have h2 := key j i z y hj hi z0 y0 e.symm
    omega
  subst this
  rw [hi] at hj
  injection hj
theorem desc_nodup {L : List Ac} (h : Good L) : ∀ (k : Nat) (x : Nm), (desc L k x).Nodup
  | 0, _ => by simp [desc]
  | k + 1, x => by
    rw [desc]
    unfold List.Nodup
    rw [List.pairwise_flatMap]
    constructor
    · intro y hy
      obtain ⟨⟨a, ha, rfl⟩, hp⟩ := mem_kids.1 hy
      rw [← List.Nodup, List.nodup_cons]
      refine ⟨fun hin => ?_, desc_nodup h k _⟩
      have := ((mem_desc h k _ _).1 hin).2
      exact Nat.lt_irrefl _ (anc_lt (h.name a ha) (List.mem_of_mem_take this))
    · have hk := h.kids_rise x
      refine List.Pairwise.imp_of_mem ?_ hk
      intro y z hy hz hyz u hu v hv huv
      subst huv
      obtain ⟨⟨a, ha, rfl⟩, hpa⟩ := mem_kids.1 hy
      obtain ⟨⟨b, hb, rfl⟩, hpb⟩ := mem_kids.1 hz
      have hu' : u = a.nm ∨ ((∃ c ∈ L, c.nm = u) ∧ a.nm ∈ anc u) := by
        rcases List.mem_cons.1 hu with e | hu
        · exact .inl e
        · have := (mem_desc h k _ _).1 hu
          exact .inr ⟨this.1, List.mem_of_mem_take this.2⟩
      have hv' : u = b.nm ∨ ((∃ c ∈ L, c.nm = u) ∧ b.nm ∈ anc u) := by
        rcases List.mem_cons.1 hv with e | hv
        · exact .inl e
        · have := (mem_desc h k _ _).1 hv
          exact .inr ⟨this.1, List.mem_of_mem_take this.2⟩
      have hun : nameL u = true := by
        rcases hu' with rfl | ⟨⟨c, hc, rfl⟩, _⟩
        · exact h.name a ha
        · exact h.name c hc
      have := one_way hun (hu'.imp (fun e => e.symm) (fun h => h.2)) (hv'.imp (fun e => e.symm) (fun h => h.2)) (name_ne (h.name a ha)) (name_ne (h.name b hb)) (hpa.trans hpb.symm)
      rw [this] at hyz
      exact List.lt_irrefl _ hyz
theorem rise_nodup {l : List Nm} (h : l.Pairwise (· < ·)) : l.Nodup := h.imp fun h e => by subst e; exact List.lt_irrefl _ h
theorem Good.names_rise {L : List Ac} (h : Good L) : (L.map (·.nm)).Pairwise (· < ·) := by
  rw [List.pairwise_map]
  exact h.rise
theorem desc_perm {L : List Ac} (h : Good L) : (desc L 6 []).Perm (L.map (·.nm)) := by
  rw [List.perm_ext_iff_of_nodup (desc_nodup h 6 []) (rise_nodup h.names_rise)]
  intro x
  rw [mem_top h]
  simp
theorem desc_len {L : List Ac} (h : Good L) : (desc L 6 []).length = L.length := by
  rw [(desc_perm h).length_eq, List.length_map]
end Go.Proofs.YtgimeecklmmbjaaDoor
