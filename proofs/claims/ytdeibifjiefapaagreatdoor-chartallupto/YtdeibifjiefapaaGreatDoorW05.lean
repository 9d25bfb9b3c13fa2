import Derived.Test.YtdeibifjiefapaaGreatDoorW04
import Derived.Test.YtdeibifjiefapaaGreatDoorW01
import Derived.Sort.Walk0
import Derived.Deep.LoopGhost
/- chart: Path (14), by slices.Collect (50). -/
namespace Go.Proofs.YtdeibifjiefapaaGreatDoor
open Go Go.RowKit Go.Shelf Go.ChangeShapes Go.WideShapes Go.ChangeAt Go.Maps
set_option linter.unusedVariables false
def seqRen : Go.Shelf.Ren := ⟨fun | 8 => 219 | 11 => 266 | n => n, fun | 0 => 0 | 24 => 85 | 26 => 9 | 28 => 255 | 33 => 96 | n => n, fun | n => n⟩
theorem seq8 : SlLaysZ.n8 Tryz.prog seqRen := {
  mixed := by kernel_rfl
  f8 := ⟨Tryz.f219.name, by kernel_rfl, Tryz.func219.trans (congrArg some (by kernel_rfl))⟩
  f11 := ⟨Tryz.f266.name, by kernel_rfl, Tryz.func266.trans (congrArg some (by kernel_rfl))⟩
  t0 := Tryz.underlying0
  a0 := Tryz.isAgg0
  z0 := Tryz.sizeOf0
  v0 := Tryz.zeroValue0
  t24 := Tryz.underlying85
  a24 := Tryz.isAgg85
  z24 := Tryz.sizeOf85
  v24 := Tryz.zeroValue85
  t26 := Tryz.underlying9
  a26 := Tryz.isAgg9
  z26 := Tryz.sizeOf9
  v26 := Tryz.zeroValue9
  t28 := Tryz.underlying255
  a28 := Tryz.isAgg255
  z28 := Tryz.sizeOf255
  v28 := Tryz.zeroValue255
  i26 := by kernel_rfl }
/-- what Path hands back: the row of names, in memory of its own -/
def PathOut (s : ByteArray) (W : World) (e : Ending) (w' : World) : Prop :=
  ∃ v, e = .returned v ∧ w'.ownsRow W.heap.size 9 1 v (pathL s.data.toList).length (scells (fOf (pathL s.data.toList)) (pathL s.data.toList).length) ∧ (v = .slice none 0 0 ↔ (pathL s.data.toList).length = 0) ∧ Below W.heap.size W w'
theorem collect_up (s : ByteArray) (hs : s.size < 4611686018427387904) (B : Nat) (w : World) (hB : w.cell? ⟨B, 0, none⟩ = some (.string s)) : Calls Tryz.prog 219 #[.func (.func 267) #[] #[.pointer (some ⟨B, 0, none⟩)]] w fun e w' => PathOut s w e w' := by
  refine (callsIn_wide (n := 4)).1 ?_
  have h := AnyZ.collect_in seq8 Fence.wide 4 trivial trivial rfl (by omega) 267 #[.pointer (some ⟨B, 0, none⟩)] trivial enters82 (fun xs => xs = pathL s.data.toList) 6 (by unfold maxLen; omega) (by omega) w ((up_stops s hs B w hB 2 (by omega)).gives)
  refine h.mono ?_
  rintro e w' ⟨v, ss, he, rfl, hrow, hnil, hb⟩
  refine ⟨v, he, ?_, ?_, hb⟩
  · rw [scells_list]
    exact hrow
  · rw [hnil]
    exact List.length_eq_zero_iff.symm
set_option maxHeartbeats 1000000 in
theorem path_any (s : ByteArray) (hs : s.size < 4611686018427387904) (w : World) : Calls Tryz.prog 161 #[.string s] w fun e w' => PathOut s w e w' := by
  have hcol := hide (collect_up s hs w.heap.size (w.alloc (.cells #[.string s] 9)) (by simp))
  have du := hide (upwards_any s w)
  go_enter Tryz.func161, Tryz.ntmps161
  go_wp2_with fail
  refine (unhide du).mono ?_
  rintro e w1 ⟨rfl, hw⟩
  rw [hw]
  clear hw w1
  go_wp2_with fail
  refine (unhide hcol).mono ?_
  rintro e w1 ⟨v, rfl, hrow, hnil, hb⟩
  have HO : Hid (PathOut s w (.returned v) w1) := ⟨v, rfl, ownsRow_base_a hrow (by simp), hnil, ((Below.refl _ w).alloc (Nat.le_refl _) _).trans (hb.mono (by simp))⟩
  clear hrow hnil hb
  go_wp2_with fail
  go_ret
  exact unhide HO
end Go.Proofs.YtdeibifjiefapaaGreatDoor
/- chart: accounts as a list by rising name; no program in it. -/
namespace Go.Proofs.YtdeibifjiefapaaGreatDoor
open Go
set_option linter.unusedVariables false
abbrev Nm := List UInt8
/-- an account -/
structure Ac where
  nm : Nm
  ty : Int
  dy : Int
  cl : Bool
theorem ups_cases (x : Nm) : ups x = [] ∨ ∃ p, ups x = p :: ups p ∧ p.length < x.length ∧ (nameL x = true → nameL p = true) := by
  by_cases h : x.contains 58 = true
  · right
    obtain ⟨j, hj, _, hu, hn⟩ := ups_some ⟨x.toArray⟩ (by simpa using h)
    have e : (⟨x.toArray⟩ : ByteArray).data.toList = x := by simp
    rw [e] at hu hn
    refine ⟨_, hu, ?_, hn⟩
    have : j < x.length := by simpa [ByteArray.size] using hj
    rw [List.length_take]
    omega
  · left
    exact ups_none x (by simpa using h)
theorem name_ne {x : Nm} (h : nameL x = true) : x ≠ [] := by
  rintro rfl
  revert h
  decide
/-- the name right above; of a root the empty one -/
def par (x : Nm) : Nm := (ups x).headD []
/-- all that stands above, up to the top -/
def anc (x : Nm) : List Nm := ups x ++ [[]]
theorem par_lt {x : Nm} (h : x ≠ []) : (par x).length < x.length := by
  rcases ups_cases x with e | ⟨p, e, hp, _⟩
  · rw [par, e]
    exact List.length_pos_iff.2 h
  · rw [par, e]
    exact hp
theorem anc_root {x : Nm} (h : ups x = []) : anc x = [[]] := by rw [anc, h]; rfl
theorem anc_step {x p : Nm} (h : ups x = p :: ups p) : anc x = p :: anc p := by rw [anc, h]; rfl
theorem anc_head (x : Nm) : (anc x)[0]? = some (par x) := by
  rcases ups_cases x with e | ⟨p, e, _⟩
  · rw [anc_root e, par, e]; rfl
  · rw [anc_step e, par, e]; rfl
theorem anc_len {x : Nm} (h : nameL x = true) : (anc x).length ≤ 6 := by
  have h1 := path_len x
  rw [pathL, if_pos h] at h1
  simp [anc] at h1 ⊢
  omega
theorem anc_short : ∀ (n : Nat) (x : Nm), x.length ≤ n → nameL x = true → ∀ y ∈ anc x, y.length < x.length
  | n, x, hn, hx, y, hy => by
    rcases ups_cases x with e | ⟨p, e, hp, hq⟩
    · rw [anc_root e] at hy
      simp at hy
      subst hy
      exact List.length_pos_iff.2 (name_ne hx)
    · rw [anc_step e] at hy
      rcases List.mem_cons.1 hy with rfl | hy
      · exact hp
      · cases n with
        | zero => omega
        | succ n =>
          have := anc_short n p (by omega) (hq hx) y hy
          omega
theorem anc_lt {x y : Nm} (hx : nameL x = true) (h : y ∈ anc x) : y.length < x.length := anc_short _ x (Nat.le_refl _) hx y h
theorem anc_next : ∀ (n : Nat) (x : Nm), x.length ≤ n → nameL x = true → ∀ (j : Nat) (z : Nm), (anc x)[j]? = some z → z ≠ [] → (anc x)[j + 1]? = some (par z) ∧ nameL z = true
  | n, x, hn, hx, j, z, hj, hz => by
    rcases ups_cases x with e | ⟨p, e, hp, hq⟩
    · rw [anc_root e] at hj
      cases j with
      | zero => simp at hj; exact (hz (by first | exact hj.symm | exact hj)).elim
      | succ j => simp at hj
    · rw [anc_step e] at hj ⊢
      cases j with
      | zero =>
        simp at hj
        subst hj
        exact ⟨by simpa using anc_head p, hq hx⟩
      | succ j =>
        cases n with
        | zero => omega
        | succ n =>
          have := anc_next n p (by omega) (hq hx) j z (by simpa using hj) hz
          simpa using this
theorem anc_down : ∀ (n : Nat) (x : Nm), x.length ≤ n → nameL x = true → ∀ (i j : Nat) (y z : Nm), (anc x)[i]? = some y → (anc x)[j]? = some z → i < j → z.length < y.length
  | n, x, hn, hx, i, j, y, z, hi, hj, hij => by
    rcases ups_cases x with e | ⟨p, e, hp, hq⟩
    · rw [anc_root e] at hj
      cases j with
      | zero => omega
      | succ j => simp at hj
    · rw [anc_step e] at hi hj
      cases j with
      | zero => omega
      | succ j =>
        simp at hj
        cases i with
        | zero =>
          simp at hi
          subst hi
          exact anc_lt (hq hx) (List.mem_of_getElem? hj)
        | succ i =>
          simp at hi
          cases n with
          | zero => omega
          | succ n => exact anc_down n p (by omega) (hq hx) i j y z hi hj (by omega)
/-- the names right below one -/
def kids (L : List Ac) (x : Nm) : List Nm := (L.filter fun a => decide (par a.nm = x)).map (·.nm)
theorem mem_kids {L : List Ac} {x y : Nm} : y ∈ kids L x ↔ (∃ a ∈ L, a.nm = y) ∧ par y = x := by
  simp only [kids, List.mem_map, List.mem_filter, decide_eq_true_eq]
  constructor
  · rintro ⟨a, ⟨h1, h2⟩, rfl⟩
    exact ⟨⟨a, h1, rfl⟩, h2⟩
  · rintro ⟨⟨a, h1, rfl⟩, h2⟩
    exact ⟨a, ⟨h1, h2⟩, rfl⟩
/-- a list of accounts that can be -/
structure Good (L : List Ac) : Prop where
  rise : L.Pairwise fun a b => a.nm < b.nm
  name : ∀ a ∈ L, nameL a.nm = true
  up : ∀ a ∈ L, ∀ p t, ups a.nm = p :: t → ∃ b ∈ L, b.nm = p ∧ b.ty = a.ty ∧ b.dy ≤ a.dy ∧ (b.cl = true → a.cl = true)
  day : ∀ a ∈ L, 1 ≤ a.dy ∧ a.dy ≤ 3652059
  typ : ∀ a ∈ L, 1 ≤ a.ty ∧ a.ty ≤ 5
  len : L.length ≤ 100
theorem Good.one {L : List Ac} (h : Good L) {a b : Ac} (ha : a ∈ L) (hb : b ∈ L) (e : a.nm = b.nm) : a = b := by
  have h1 := h.rise
  clear h
  induction L with
  | nil => cases ha
  | cons c L ih =>
    rw [List.pairwise_cons] at h1
    rcases List.mem_cons.1 ha with rfl | ha'
    · rcases List.mem_cons.1 hb with rfl | hb'
      · rfl
      · have := h1.1 b hb'
        rw [e] at this
        exact absurd this (List.lt_irrefl _)
    · rcases List.mem_cons.1 hb with rfl | hb'
      · have := h1.1 a ha'
        rw [e] at this
        exact absurd this (List.lt_irrefl _)
      · exact ih ha' hb' h1.2
theorem Good.kids_rise {L : List Ac} (h : Good L) (x : Nm) : (kids L x).Pairwise (· < ·) := by
  rw [kids, List.pairwise_map]
  exact (h.rise.filter _).imp fun h => h
/-- what stands above an account is one -/
theorem Good.above {L : List Ac} (h : Good L) : ∀ (n : Nat) (x : Nm), x.length ≤ n → (∃ a ∈ L, a.nm = x) → ∀ y ∈ anc x, y ≠ [] → ∃ a ∈ L, a.nm = y
  | n, x, hn, ⟨a, ha, hax⟩, y, hy, h0 => by
    subst hax
    rcases ups_cases a.nm with e | ⟨p, e, hp, hq⟩
    · rw [anc_root e] at hy
      simp at hy
      exact absurd hy h0
    · obtain ⟨b, hb, hbp, _⟩ := h.up a ha p _ e
      rw [anc_step e] at hy
      rcases List.mem_cons.1 hy with rfl | hy
      · exact ⟨b, hb, hbp⟩
      · cases n with
        | zero => omega
        | succ n => exact h.above n p (by omega) ⟨b, hb, hbp⟩ y hy h0
/-- all below one, each ahead of those below it -/
def desc (L : List Ac) : Nat → Nm → List Nm
  | 0, _ => []
  | k + 1, x => (kids L x).flatMap fun y => y :: desc L k y
theorem mem_desc {L : List Ac} (h : Good L) : ∀ (k : Nat) (y x : Nm), x ∈ desc L k y ↔ (∃ a ∈ L, a.nm = x) ∧ y ∈ (anc x).take k
  | 0, y, x => by simp [desc]
  | k + 1, y, x => by
    rw [desc, List.mem_flatMap]
    constructor
    · rintro ⟨z, hz, hx⟩
      rw [mem_kids] at hz
      obtain ⟨⟨c, hc, rfl⟩, rfl⟩ := hz
      rcases List.mem_cons.1 hx with rfl | hx
      · refine ⟨⟨c, hc, rfl⟩, ?_⟩
        have := anc_head c.nm
        exact List.mem_of_getElem? (i := 0) (by rw [List.getElem?_take_of_lt (by omega)]; exact this)
      · rw [mem_desc h k] at hx
        obtain ⟨⟨a, ha, rfl⟩, hin⟩ := hx
        refine ⟨⟨a, ha, rfl⟩, ?_⟩
        obtain ⟨j, hj⟩ := List.getElem?_of_mem hin
        have hjk : j < k := by
          have := (List.getElem?_eq_some_iff.1 hj).1
          rw [List.length_take] at this
          omega
        rw [List.getElem?_take_of_lt hjk] at hj
        have h2 := (anc_next _ a.nm (Nat.le_refl _) (h.name a ha) j c.nm hj (name_ne (h.name c hc))).1
        exact List.mem_of_getElem? (i := j + 1) (by rw [List.getElem?_take_of_lt (by omega)]; exact h2)
    · rintro ⟨⟨a, ha, rfl⟩, hin⟩
      obtain ⟨j, hj⟩ := List.getElem?_of_mem hin
      have hjk : j < k + 1 := by
        have := (List.getElem?_eq_some_iff.1 hj).1
        rw [List.length_take] at this
        omega
      rw [List.getElem?_take_of_lt hjk] at hj
      cases j with
      | zero =>
        rw [anc_head] at hj
        injection hj with hj
        exact ⟨a.nm, mem_kids.2 ⟨⟨a, ha, rfl⟩, hj⟩, List.mem_cons_self ..⟩
      | succ i =>
        have hl := (List.getElem?_eq_some_iff.1 hj).1
        obtain ⟨z, hz⟩ : ∃ z, (anc a.nm)[i]? = some z := ⟨_, List.getElem?_eq_getElem (by omega)⟩
        have hz0 : z ≠ [] := fun e => by
          have := anc_down _ a.nm (Nat.le_refl _) (h.name a ha) i (i + 1) z y hz hj (by omega)
          rw [e] at this
          simp at this
        have h2 := (anc_next _ a.nm (Nat.le_refl _) (h.name a ha) i z hz hz0).1
        rw [hj] at h2
        injection h2 with h2
        refine ⟨z, mem_kids.2 ⟨h.above _ a.nm (Nat.le_refl _) ⟨a, ha, rfl⟩ z (List.mem_of_getElem? hz) hz0, h2.symm⟩, List.mem_cons_of_mem _ ?_⟩
        rw [mem_desc h k]
        exact ⟨⟨a, ha, rfl⟩, List.mem_of_getElem? (i := i) (by rw [List.getElem?_take_of_lt (by omega)]; exact hz)⟩
theorem mem_top {L : List Ac} (h : Good L) (x : Nm) : x ∈ desc L 6 [] ↔ ∃ a ∈ L, a.nm = x := by
  rw [mem_desc h]
  constructor
  · exact fun h => h.1
  · rintro ⟨a, ha, rfl⟩
    refine ⟨⟨a, ha, rfl⟩, ?_⟩
    rw [List.take_of_length_le (anc_len (h.name a ha))]
    simp [anc]
theorem mem_below {L : List Ac} (h : Good L) (y x : Nm) : x ∈ desc L 6 y ↔ (∃ a ∈ L, a.nm = x) ∧ y ∈ anc x := by
  rw [mem_desc h]
  constructor
  · exact fun h => ⟨h.1, List.mem_of_mem_take h.2⟩
  · rintro ⟨⟨a, ha, rfl⟩, hy⟩
    exact ⟨⟨a, ha, rfl⟩, by rw [List.take_of_length_le (anc_len (h.name a ha))]; exact hy⟩
/-- of two names with one above both, on one way up: they are one -/
theorem one_way {x y z : Nm} (hx : nameL x = true) (hy : y = x ∨ y ∈ anc x) (hz : z = x ∨ z ∈ anc x) (y0 : y ≠ []) (z0 : z ≠ []) (e : par y = par z) : y = z := by
  have hnx : ∀ (i : Nat) (u : Nm), (x :: anc x)[i]? = some u → u ≠ [] → (x :: anc x)[i + 1]? = some (par u) := fun i u hi hu => by
    cases i with
    | zero => simp at hi; subst hi; simpa using anc_head x
    | succ i => simpa using (anc_next _ x (Nat.le_refl _) hx i u (by simpa using hi) hu).1
  have hdn : ∀ (i j : Nat) (u v : Nm), (x :: anc x)[i]? = some u → (x :: anc x)[j]? = some v → i < j → v.length < u.length := fun i j u v hi hj hij => by
    cases j with
    | zero => omega
    | succ j =>
      simp at hj
      cases i with
      | zero => simp at hi; subst hi; exact anc_lt hx (List.mem_of_getElem? hj)
      | succ i => exact anc_down _ x (Nat.le_refl _) hx i j u v (by simpa using hi) hj (by omega)
  obtain ⟨i, hi⟩ := List.getElem?_of_mem (List.mem_cons.2 hy)
  obtain ⟨j, hj⟩ := List.getElem?_of_mem (List.mem_cons.2 hz)
  have key : ∀ (i j : Nat) (u v : Nm), (x :: anc x)[i]? = some u → (x :: anc x)[j]? = some v → u ≠ [] → v ≠ [] → par u = par v → ¬ i < j := fun i j u v hi hj hu hv e hij => by
    have h1 := hnx i u hi hu
    have h2 := hnx j v hj hv
    have h3 := hdn (i + 1) (j + 1) _ _ h1 h2 (by omega)
    rw [e] at h3
    omega
  have : i = j := by
    have h1 := key i j y z hi hj y0 z0 e
    have h2 := key j i z y hj hi z0 y0 e.symm
    omega
  subst this
  rw [hi] at hj
  injection hj
theorem desc_nodup {L : List Ac} (h : Good L) : ∀ (k : Nat) (x : Nm), (desc L k x).Nodup
  | 0, _ => by simp [desc]
  | k + 1, x => by
    rw [desc]
    unfold List.Nodup
    rw [List.pairwise_flatMap]
    constructor
    · intro y hy
      obtain ⟨⟨a, ha, rfl⟩, hp⟩ := mem_kids.1 hy
      rw [← List.Nodup, List.nodup_cons]
      refine ⟨fun hin => ?_, desc_nodup h k _⟩
      have := ((mem_desc h k _ _).1 hin).2
      exact Nat.lt_irrefl _ (anc_lt (h.name a ha) (List.mem_of_mem_take this))
    · have hk := h.kids_rise x
      refine List.Pairwise.imp_of_mem ?_ hk
      intro y z hy hz hyz u hu v hv huv
      subst huv
      obtain ⟨⟨a, ha, rfl⟩, hpa⟩ := mem_kids.1 hy
      obtain ⟨⟨b, hb, rfl⟩, hpb⟩ := mem_kids.1 hz
      have hu' : u = a.nm ∨ ((∃ c ∈ L, c.nm = u) ∧ a.nm ∈ anc u) := by
        rcases List.mem_cons.1 hu with e | hu
        · exact .inl e
        · have := (mem_desc h k _ _).1 hu
          exact .inr ⟨this.1, List.mem_of_mem_take this.2⟩
      have hv' : u = b.nm ∨ ((∃ c ∈ L, c.nm = u) ∧ b.nm ∈ anc u) := by
        rcases List.mem_cons.1 hv with e | hv
        · exact .inl e
        · have := (mem_desc h k _ _).1 hv
          exact .inr ⟨this.1, List.mem_of_mem_take this.2⟩
      have hun : nameL u = true := by
        rcases hu' with rfl | ⟨⟨c, hc, rfl⟩, _⟩
        · exact h.name a ha
        · exact h.name c hc
      have := one_way hun (hu'.imp (fun e => e.symm) (fun h => h.2)) (hv'.imp (fun e => e.symm) (fun h => h.2)) (name_ne (h.name a ha)) (name_ne (h.name b hb)) (hpa.trans hpb.symm)
      rw [this] at hyz
      exact List.lt_irrefl _ hyz
theorem rise_nodup {l : List Nm} (h : l.Pairwise (· < ·)) : l.Nodup := h.imp fun h e => by subst e; exact List.lt_irrefl _ h
theorem Good.names_rise {L : List Ac} (h : Good L) : (L.map (·.nm)).Pairwise (· < ·) := by
  rw [List.pairwise_map]
  exact h.rise
theorem desc_perm {L : List Ac} (h : Good L) : (desc L 6 []).Perm (L.map (·.nm)) := by
  rw [List.perm_ext_iff_of_nodup (desc_nodup h 6 []) (rise_nodup h.names_rise)]
  intro x
  rw [mem_top h]
  simp
theorem desc_len {L : List Ac} (h : Good L) : (desc L 6 []).length = L.length := by
  rw [(desc_perm h).length_eq, List.length_map]
end Go.Proofs.YtdeibifjiefapaaGreatDoor
/- chart: cmp.Compare (27), place$1 (51), slices.BinarySearchFunc (50), place (37). -/
namespace Go.Proofs.YtdeibifjiefapaaGreatDoor
open Go Go.Shelf Go.ChangeShapes Go.WideShapes Go.ChangeAt Go.RowKit Go.Maps
set_option linter.unusedVariables false
def cmpS (x y : List UInt8) : Int := if x < y then -1 else if x = y then 0 else 1
theorem slt_irrefl (x : List UInt8) : ¬ x < x := List.lt_irrefl x
theorem slt_trans {x y z : List UInt8} (h1 : x < y) (h2 : y < z) : x < z := List.lt_trans h1 h2
theorem slt_tri {x y : List UInt8} (h1 : ¬ x < y) (h2 : ¬ y < x) : x = y := by
  rw [List.not_lt] at h1 h2
  exact List.le_antisymm h2 h1
theorem cmpS_neg (x y : List UInt8) : cmpS x y < 0 ↔ x < y := by
  unfold cmpS
  by_cases h1 : x < y
  · simp [h1]
  · by_cases h2 : x = y
    · rw [if_neg h1, if_pos h2]; simp [h1]
    · rw [if_neg h1, if_neg h2]; simp [h1]
theorem nans_any (x : ByteArray) (w : World) : Calls Tryz.prog 169 #[.string x] w fun e w' => e = .returned (.bool false) ∧ w' = w := by
  have hx : (x.toList == x.toList) = true := by simp
  go_enter Tryz.func169, Tryz.ntmps169
  go_wp2_with fail
  go_ret
  exact ⟨rfl, rfl⟩
theorem cmps_any (x y : ByteArray) (w : World) : Calls Tryz.prog 94 #[.string x, .string y] w fun e w' => e = .returned (.int .i64 (cmpS x.data.toList y.data.toList)) ∧ w' = w := by
  have d1 := hide (nans_any x); have d2 := hide (nans_any y)
  have e1 : Op.bytesLess x.toList y.toList = decide (x.data.toList < y.data.toList) := by rw [Go.Proofs.bytesLess_eq, ByteArray.toList_eq, ByteArray.toList_eq]
  have e2 : (x.toList == y.toList) = decide (x.data.toList = y.data.toList) := by rw [ByteArray.toList_eq, ByteArray.toList_eq]; exact Bool.eq_iff_iff.2 (by rw [beq_iff_eq, decide_eq_true_iff])
  by_cases h1 : x.data.toList < y.data.toList
  · rw [cmpS, if_pos h1]
    rw [decide_eq_true h1] at e1
    clear e2 h1
    go_enter Tryz.func94, Tryz.ntmps94
    go_wp2_with fail
    refine (unhide d1 _).mono ?_
    rintro e w' ⟨rfl, rfl⟩
    go_wp2_with fail
    refine (unhide d2 _).mono ?_
    rintro e w' ⟨rfl, rfl⟩
    go_wp2_with fail
    go_ret
    exact ⟨rfl, rfl⟩
  · rw [decide_eq_false h1] at e1
    by_cases h2 : x.data.toList = y.data.toList
    · rw [cmpS, if_neg h1, if_pos h2]
      rw [decide_eq_true h2] at e2
      clear h1 h2
      go_enter Tryz.func94, Tryz.ntmps94
      go_wp2_with fail
      refine (unhide d1 _).mono ?_
      rintro e w' ⟨rfl, rfl⟩
      go_wp2_with fail
      refine (unhide d2 _).mono ?_
      rintro e w' ⟨rfl, rfl⟩
      go_wp2_with fail
      go_ret
      exact ⟨rfl, rfl⟩
    · rw [cmpS, if_neg h1, if_neg h2]
      rw [decide_eq_false h2] at e2
      clear h1 h2
      go_enter Tryz.func94, Tryz.ntmps94
      go_wp2_with fail
      refine (unhide d1 _).mono ?_
      rintro e w' ⟨rfl, rfl⟩
      go_wp2_with fail
      refine (unhide d2 _).mono ?_
      rintro e w' ⟨rfl, rfl⟩
      go_wp2_with fail
      go_ret
      exact ⟨rfl, rfl⟩

theorem cmpS_zero (x y : List UInt8) : cmpS x y = 0 ↔ x = y := by
  unfold cmpS
  by_cases h1 : x < y
  · rw [if_pos h1]
    constructor
    · intro h; omega
    · rintro rfl; exact absurd h1 (slt_irrefl _)
  · by_cases h2 : x = y
    · rw [if_neg h1, if_pos h2]; simp [h2]
    · rw [if_neg h1, if_neg h2]; simp [h2]
/-- a name as a text -/
abbrev txN (x : Nm) : ByteArray := ⟨x.toArray⟩
theorem txN_list (x : Nm) : (txN x).data.toList = x := by simp
/-- a pointer to a block -/
abbrev ptr (b : Nat) : Value := .pointer (some ⟨b, 0, none⟩)
set_option maxHeartbeats 1000000 in
theorem place1_any (b : Nat) (s t : ByteArray) (w : World) (h : w.cell? ⟨b, 0, none⟩ = some (.string s)) : Calls Tryz.prog 212 #[ptr b, .string t] w fun e w' => e = .returned (.int .i64 (cmpS s.data.toList t.data.toList)) ∧ w' = w := by
  have d1 := hide (cmps_any s t)
  go_enter Tryz.func212, Tryz.ntmps212
  go_wp2_with fail
  refine (unhide d1 _).mono ?_
  rintro e w' ⟨rfl, rfl⟩
  go_wp2_with fail
  go_ret
  exact ⟨rfl, rfl⟩
/-- how many names are ahead of one -/
def posK (K : List Nm) (x : Nm) : Nat := K.countP fun y => decide (y < x)
theorem posK_is {K : List Nm} {x : Nm} {i : Nat} (hi : i ≤ K.length) (h1 : ∀ t (h : t < K.length), t < i → K[t] < x) (h2 : ∀ t (h : t < K.length), i ≤ t → ¬ K[t] < x) : posK K x = i := by
  unfold posK
  induction K generalizing i with
  | nil => simp at hi; simp [hi]
  | cons k K ih =>
    cases i with
    | zero =>
      rw [List.countP_eq_zero]
      intro y hy
      obtain ⟨t, ht, rfl⟩ := List.getElem_of_mem hy
      simpa using h2 t ht (by omega)
    | succ i =>
      have hk : k < x := h1 0 (by simp) (by omega)
      rw [List.countP_cons_of_pos (by simpa using hk), ih (by simpa using hi) (fun t h ht => h1 (t + 1) (by simpa using h) (by omega)) (fun t h ht => h2 (t + 1) (by simpa using h) (by omega))]
theorem posK_le (K : List Nm) (x : Nm) : posK K x ≤ K.length := List.countP_le_length
theorem found_is {K : List Nm} {x : Nm} (hK : K.Pairwise (· < ·)) {i : Nat} (hi : i ≤ K.length) (h1 : ∀ t (h : t < K.length), t < i → K[t] < x) (h2 : ∀ t (h : t < K.length), i ≤ t → ¬ K[t] < x) : x ∈ K ↔ ∃ h : i < K.length, K[i] = x := by
  constructor
  · intro hx
    obtain ⟨t, ht, rfl⟩ := List.getElem_of_mem hx
    have hti : ¬ t < i := fun h => slt_irrefl _ (h1 t ht h)
    by_cases e : t = i
    · subst e; exact ⟨ht, rfl⟩
    · have hlt : i < t := by omega
      have := List.pairwise_iff_getElem.1 hK i t (by omega) ht hlt
      exact absurd this (h2 i (by omega) (Nat.le_refl _))
  · rintro ⟨h, rfl⟩
    exact List.getElem_mem h
theorem enters51 : ∀ args w, (callFunc 212 args).run Tryz.prog w = .ok (.enter 212 args) w := by
  exact enters_of Tryz.func212 (by kernel_rfl) rfl

/-- a row of nodes: the names that stand right below, in memory -/
structure RowK (w : World) (q : Nat) (nd : Nm → Nat) (K : List Nm) : Prop where
  row : ∀ j (h : j < K.length), w.cell? ⟨q, j, none⟩ = some (ptr (nd K[j]))
  nam : ∀ x ∈ K, w.cell? ⟨nd x, 0, none⟩ = some (.string (txN x))
set_option maxRecDepth 100000 in
set_option maxHeartbeats 4000000 in
theorem bsf_any (w : World) (q cap n : Nat) (nd : Nm → Nat) (K : List Nm) (hn : K.length = n) (hn1 : n ≤ 100) (t : ByteArray) (hK : RowK w q nd K) (hr : K.Pairwise (· < ·)) :
    Calls Tryz.prog 211 #[.slice (some ⟨q, 0, none⟩) n cap, .string t, .func (.func 212) #[] #[]] w fun e w' => e = .returned (.tuple #[.int .i64 (posK K t.data.toList : Nat), .bool (decide (t.data.toList ∈ K))]) ∧ w' = w := by
  have HK := hide hK; have HR := hide hr; have HN := hide hn
  have eg := enters51
  clear hK hr hn
  obtain ⟨po, hpo⟩ : ∃ z, posK K t.data.toList = z := ⟨_, rfl⟩
  have PO := hide hpo
  rw [hpo]
  clear hpo
  obtain ⟨fo, hfo⟩ : ∃ z, decide (t.data.toList ∈ K) = z := ⟨_, rfl⟩
  have FO := hide hfo
  rw [hfo]
  clear hfo
  have key : ∀ y (hy : y < n), ∃ s, Hid (∃ h : y < K.length, K[y] = s) ∧ w.cell? ⟨q, y, none⟩ = some (ptr (nd s)) ∧ Hid (Calls Tryz.prog 212 #[ptr (nd s), .string t] w fun e w' => e = .returned (.int .i64 (cmpS s t.data.toList)) ∧ w' = w) := fun y hy => by
    have hy' : y < K.length := by rw [unhide HN]; exact hy
    refine ⟨K[y], ⟨hy', rfl⟩, (unhide HK).row y hy', ?_⟩
    have := place1_any (nd K[y]) (txN K[y]) t w ((unhide HK).nam _ (List.getElem_mem hy'))
    rw [txN_list] at this
    exact this
  have KEY := hide key
  clear key
  go_enter Tryz.func211, Tryz.ntmps211
  go_wp2
  go_loopg [9, 10] n (fun kx s9 s10 wr => ∃ lo hi : Nat, s9 = .int .i64 lo ∧ s10 = .int .i64 hi ∧ lo ≤ hi ∧ hi ≤ n ∧ hi - lo ≤ kx ∧ Hid (wr = w) ∧ Hid (∀ y (h : y < K.length), y < lo → K[y] < t.data.toList) ∧ Hid (∀ y (h : y < K.length), hi ≤ y → ¬ K[y] < t.data.toList))
  case atStart => exact ⟨0, n, rfl, rfl, Nat.zero_le _, Nat.le_refl _, by omega, rfl, fun y h h2 => by omega, fun y h h2 => by have := unhide HN; omega⟩
  case round =>
    obtain ⟨lo, hi, rfl, rfl, hlh, hin, hg, hw, i1, i2⟩ := hrel
    have hw' := unhide hw
    subst hw'
    by_cases hlt : lo < hi
    · obtain ⟨s, hs, hc, dc⟩ := unhide KEY ((lo + hi) / 2) (by omega)
      obtain ⟨c, hcv⟩ : ∃ c, cmpS s t.data.toList = c := ⟨_, rfl⟩
      rw [hcv] at dc
      have CV := hide hcv
      clear hcv
      by_cases hy : c < 0
      · go_wp2_with (go_at_fn 212; refine (unhide dc).mono ?_; rintro e w' ⟨rfl, rfl⟩)
        go_roundg (hi - ((lo + hi) / 2 + 1))
        case measure => omega
        case rel =>
          refine ⟨(lo + hi) / 2 + 1, hi, by rw [show ((lo : Int) + (hi : Int)) / 2 + 1 = (((lo + hi) / 2 + 1 : Nat) : Int) by omega], rfl, by omega, hin, Nat.le_refl _, rfl, fun y h h2 => ?_, unhide i2⟩
          obtain ⟨hm, em⟩ := unhide hs
          have hsx : s < t.data.toList := (cmpS_neg _ _).1 (by rw [unhide CV]; exact hy)
          rw [← em] at hsx
          by_cases e : y = (lo + hi) / 2
          · subst e; exact hsx
          · exact slt_trans (List.pairwise_iff_getElem.1 (unhide HR) y _ h hm (by omega)) hsx
      · go_wp2_with (go_at_fn 212; refine (unhide dc).mono ?_; rintro e w' ⟨rfl, rfl⟩)
        go_roundg ((lo + hi) / 2 - lo)
        case measure => omega
        case rel =>
          refine ⟨lo, (lo + hi) / 2, rfl, by rw [show ((lo : Int) + (hi : Int)) / 2 = (((lo + hi) / 2 : Nat) : Int) by omega], by omega, by omega, Nat.le_refl _, rfl, unhide i1, fun y h h2 hyx => ?_⟩
          obtain ⟨hm, em⟩ := unhide hs
          have hsx : ¬ s < t.data.toList := fun h => Int.not_lt.2 hy (by rw [← unhide CV]; exact (cmpS_neg _ _).2 h)
          rw [← em] at hsx
          by_cases e : y = (lo + hi) / 2
          · subst e; exact hsx hyx
          · exact hsx (slt_trans (List.pairwise_iff_getElem.1 (unhide HR) _ y hm h (by omega)) hyx)
    · obtain rfl : hi = lo := by omega
      have hpos := posK_is (i := hi) (by rw [unhide HN]; exact hin) (unhide i1) (unhide i2)
      rw [unhide PO] at hpos
      subst hpos
      by_cases hn : po < n
      · obtain ⟨s, hs, hc, dc⟩ := unhide KEY po hn
        obtain ⟨c, hcv⟩ : ∃ c, cmpS s t.data.toList = c := ⟨_, rfl⟩
        rw [hcv] at dc
        have hfin : fo = (c == 0) := by
          rw [← unhide FO, ← hcv, Bool.eq_iff_iff, decide_eq_true_eq, beq_iff_eq, cmpS_zero, found_is (unhide HR) (by rw [unhide HN]; exact hin) (unhide i1) (unhide i2)]
          obtain ⟨hm, em⟩ := unhide hs
          constructor
          · rintro ⟨_, h⟩; rw [← em]; exact h
          · intro h; exact ⟨hm, em.trans h⟩
        clear hcv
        subst hfin
        have HF := hide hn
        by_cases hy : c = 0
        · have hy2 : (c == 0) = true := by simp [hy]
          go_wp2_with (go_at_fn 212; refine (unhide dc).mono ?_; rintro e w' ⟨rfl, rfl⟩)
          go_ret2
          exact ⟨by simp [hy], rfl⟩
        · have hy2 : (c == 0) = false := by simp [hy]
          go_wp2_with (go_at_fn 212; refine (unhide dc).mono ?_; rintro e w' ⟨rfl, rfl⟩)
          go_ret2
          exact ⟨by simp [hy], rfl⟩
      · have hfin : fo = false := by
          rw [← unhide FO, decide_eq_false_iff_not, found_is (unhide HR) (by rw [unhide HN]; exact hin) (unhide i1) (unhide i2)]
          rintro ⟨h, _⟩
          have := unhide HN
          omega
        subst hfin
        go_wp2
        go_ret2
        exact ⟨rfl, rfl⟩
end Go.Proofs.YtdeibifjiefapaaGreatDoor
