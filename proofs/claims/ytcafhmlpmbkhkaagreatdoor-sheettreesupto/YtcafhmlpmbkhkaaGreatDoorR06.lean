import Derived.Test.YtcafhmlpmbkhkaaGreatDoorR02
import Derived.Test.YtcafhmlpmbkhkaaGreatDoorR05
namespace Go.Proofs.YtcafhmlpmbkhkaaGreatDoor.Ch
open Go Go.RowKit
set_option linter.unusedVariables false
set_option linter.unusedSimpArgs false
theorem anc_len {x : Nm} (h : nameL x = true) : (anc x).length ≤ 6 := by
  have h1 := path_len x
  rw [pathL, if_pos h] at h1
  simp [anc] at h1 ⊢
  omega
def desc (L : List Ac) : Nat → Nm → List Nm
  | 0, _ => []
  | k + 1, x => (kids L x).flatMap fun y => y :: desc L k y
theorem mem_desc {L : List Ac} (h : Good L) : ∀ (k : Nat) (y x : Nm), x ∈ desc L k y ↔ (∃ a ∈ L, a.nm = x) ∧ y ∈ (anc x).take k
  | 0, y, x => by simp [desc]
  | k + 1, y, x => by
    rw [desc, List.mem_flatMap]
    constructor
    · rintro ⟨z, hz, hx⟩
      rw [mem_kids] at hz
      obtain ⟨⟨c, hc, rfl⟩, rfl⟩ := hz
      rcases List.mem_cons.1 hx with rfl | hx
      · refine ⟨⟨c, hc, rfl⟩, ?_⟩
        have := anc_head c.nm
        exact List.mem_of_getElem? (i := 0) (by rw [List.getElem?_take_of_lt (by omega)]; exact this)
      · rw [mem_desc h k] at hx
        obtain ⟨⟨a, ha, rfl⟩, hin⟩ := hx
        refine ⟨⟨a, ha, rfl⟩, ?_⟩
        obtain ⟨j, hj⟩ := List.getElem?_of_mem hin
        have hjk : j < k := by
          have := (List.getElem?_eq_some_iff.1 hj).1
          rw [List.length_take] at this
          omega
        rw [List.getElem?_take_of_lt hjk] at hj
        have h2 := (anc_next _ a.nm (Nat.le_refl _) (h.name a ha) j c.nm hj (name_ne (h.name c hc))).1
        exact List.mem_of_getElem? (i := j + 1) (by rw [List.getElem?_take_of_lt (by omega)]; exact h2)
    · rintro ⟨⟨a, ha, rfl⟩, hin⟩
      obtain ⟨j, hj⟩ := List.getElem?_of_mem hin
      have hjk : j < k + 1 := by
        have := (List.getElem?_eq_some_iff.1 hj).1
        rw [List.length_take] at this
        omega
      rw [List.getElem?_take_of_lt hjk] at hj
      cases j with
      | zero =>
        rw [anc_head] at hj
        injection hj with hj
        exact ⟨a.nm, mem_kids.2 ⟨⟨a, ha, rfl⟩, hj⟩, List.mem_cons_self ..⟩
      | succ i =>
        have hl := (List.getElem?_eq_some_iff.1 hj).1
        obtain ⟨z, hz⟩ : ∃ z, (anc a.nm)[i]? = some z := ⟨_, List.getElem?_eq_getElem (by omega)⟩
        have hz0 : z ≠ [] := fun e => by
          have := anc_down _ a.nm (Nat.le_refl _) (h.name a ha) i (i + 1) z y hz hj (by omega)
          rw [e] at this
          simp at this
        have h2 := (anc_next _ a.nm (Nat.le_refl _) (h.name a ha) i z hz hz0).1
        rw [hj] at h2
        injection h2 with h2
        refine ⟨z, mem_kids.2 ⟨h.above _ a.nm (Nat.le_refl _) ⟨a, ha, rfl⟩ z (List.mem_of_getElem? hz) hz0, h2.symm⟩, List.mem_cons_of_mem _ ?_⟩
        rw [mem_desc h k]
        exact ⟨⟨a, ha, rfl⟩, List.mem_of_getElem? (i := i) (by rw [List.getElem?_take_of_lt (by omega)]; exact hz)⟩
theorem mem_top {L : List Ac} (h : Good L) (x : Nm) : x ∈ desc L 6 [] ↔ ∃ a ∈ L, a.nm = x := by
  rw [mem_desc h]
  constructor
  · exact fun h => h.1
  · rintro ⟨a, ha, rfl⟩
    refine ⟨⟨a, ha, rfl⟩, ?_⟩
    rw [List.take_of_length_le (anc_len (h.name a ha))]
    simp [anc]
theorem one_way {x y z : Nm} (hx : nameL x = true) (hy : y = x ∨ y ∈ anc x) (hz : z = x ∨ z ∈ anc x) (y0 : y ≠ []) (z0 : z ≠ []) (e : par y = par z) : y = z := by
  have hnx : ∀ (i : Nat) (u : Nm), (x :: anc x)[i]? = some u → u ≠ [] → (x :: anc x)[i + 1]? = some (par u) := fun i u hi hu => by
    cases i with
    | zero => simp at hi; subst hi; simpa using anc_head x
    | succ i => simpa using (anc_next _ x (Nat.le_refl _) hx i u (by simpa using hi) hu).1
  have hdn : ∀ (i j : Nat) (u v : Nm), (x :: anc x)[i]? = some u → (x :: anc x)[j]? = some v → i < j → v.length < u.length := fun i j u v hi hj hij => by
    cases j with
    | zero => omega
    | succ j =>
      simp at hj
      cases i with
      | zero => simp at hi; subst hi; exact anc_lt hx (List.mem_of_getElem? hj)
      | succ i => exact anc_down _ x (Nat.le_refl _) hx i j u v (by simpa using hi) hj (by omega)
  obtain ⟨i, hi⟩ := List.getElem?_of_mem (List.mem_cons.2 hy)
  obtain ⟨j, hj⟩ := List.getElem?_of_mem (List.mem_cons.2 hz)
  have key : ∀ (i j : Nat) (u v : Nm), (x :: anc x)[i]? = some u → (x :: anc x)[j]? = some v → u ≠ [] → v ≠ [] → par u = par v → ¬ i < j := fun i j u v hi hj hu hv e hij => by
    have h1 := hnx i u hi hu
    have h2 := hnx j v hj hv
    have h3 := hdn (i + 1) (j + 1) _ _ h1 h2 (by omega)
    rw [e] at h3
    omega
  have : i = j := by
    have h1 := key i j y z hi hj y0 z0 e
    have h2 := key j i z y hj hi z0 y0 e.symm
    omega
  subst this
  rw [hi] at hj
  injection hj
theorem desc_nodup {L : List Ac} (h : Good L) : ∀ (k : Nat) (x : Nm), (desc L k x).Nodup
  | 0, _ => by simp [desc]
  | k + 1, x => by
    rw [desc]
    unfold List.Nodup
    rw [List.pairwise_flatMap]
    constructor
    · intro y hy
      obtain ⟨⟨a, ha, rfl⟩, hp⟩ := mem_kids.1 hy
      rw [← List.Nodup, List.nodup_cons]
      refine ⟨fun hin => ?_, desc_nodup h k _⟩
      have := ((mem_desc h k _ _).1 hin).2
      exact Nat.lt_irrefl _ (anc_lt (h.name a ha) (List.mem_of_mem_take this))
    · have hk := h.kids_rise x
      refine List.Pairwise.imp_of_mem ?_ hk
      intro y z hy hz hyz u hu v hv huv
      subst huv
      obtain ⟨⟨a, ha, rfl⟩, hpa⟩ := mem_kids.1 hy
      obtain ⟨⟨b, hb, rfl⟩, hpb⟩ := mem_kids.1 hz
      have hu' : u = a.nm ∨ ((∃ c ∈ L, c.nm = u) ∧ a.nm ∈ anc u) := by
        rcases List.mem_cons.1 hu with e | hu
        · exact .inl e
        · have := (mem_desc h k _ _).1 hu
          exact .inr ⟨this.1, List.mem_of_mem_take this.2⟩
      have hv' : u = b.nm ∨ ((∃ c ∈ L, c.nm = u) ∧ b.nm ∈ anc u) := by
        rcases List.mem_cons.1 hv with e | hv
        · exact .inl e
        · have := (mem_desc h k _ _).1 hv
          exact .inr ⟨this.1, List.mem_of_mem_take this.2⟩
      have hun : nameL u = true := by
        rcases hu' with rfl | ⟨⟨c, hc, rfl⟩, _⟩
        · exact h.name a ha
        · exact h.name c hc
      have := one_way hun (hu'.imp (fun e => e.symm) (fun h => h.2)) (hv'.imp (fun e => e.symm) (fun h => h.2)) (name_ne (h.name a ha)) (name_ne (h.name b hb)) (hpa.trans hpb.symm)
      rw [this] at hyz
      exact List.lt_irrefl _ hyz
theorem rise_nodup {l : List Nm} (h : l.Pairwise (· < ·)) : l.Nodup := h.imp fun h e => by subst e; exact List.lt_irrefl _ h
theorem Good.names_rise {L : List Ac} (h : Good L) : (L.map (·.nm)).Pairwise (· < ·) := by
  rw [List.pairwise_map]
  exact h.rise
theorem desc_perm {L : List Ac} (h : Good L) : (desc L 6 []).Perm (L.map (·.nm)) := by
  rw [List.perm_ext_iff_of_nodup (desc_nodup h 6 []) (rise_nodup h.names_rise)]
  intro x
  rw [mem_top h]
  simp
theorem desc_len {L : List Ac} (h : Good L) : (desc L 6 []).length = L.length := by
  rw [(desc_perm h).length_eq, List.length_map]
end Go.Proofs.YtcafhmlpmbkhkaaGreatDoor.Ch
namespace Go.Proofs.YtcafhmlpmbkhkaaGreatDoor.Ch
open Go Go.Shelf Go.ChangeShapes Go.WideShapes Go.ChangeAt Go.RowKit Go.Maps
set_option linter.unusedVariables false
set_option linter.unusedSimpArgs false
def dep (x : Nm) : Nat := if x = [] then 0 else (anc x).length
theorem kid_dep {L : List Ac} (hG : Good L) {x y : Nm} (hy : y ∈ kids L x) : dep y = dep x + 1 := by
  obtain ⟨⟨a, ha, rfl⟩, rfl⟩ := mem_kids.1 hy
  have hn := hG.name a ha
  have h0 := name_ne hn
  unfold dep
  rw [if_neg h0]
  rcases ups_cases a.nm with e | ⟨p, e, hp, hq⟩
  · have h1 : par a.nm = [] := by rw [par, e]; rfl
    rw [h1, if_pos rfl, anc_root e]
    rfl
  · have h1 : par a.nm = p := by rw [par, e]; rfl
    have h2 := name_ne (hq hn)
    rw [h1, if_neg h2, anc_step e]
    rfl
theorem dep_le {L : List Ac} (hG : Good L) {a : Ac} (ha : a ∈ L) : dep a.nm ≤ 6 := by
  unfold dep
  split
  · omega
  · exact anc_len (hG.name a ha)
def bd : Nat → Nat
  | 0 => 0
  | k + 1 => 100 * (1 + bd k)
theorem bd_le : ∀ k, k ≤ 6 → bd k ≤ 1010101010100
  | 0, _ => by decide
  | 1, _ => by decide
  | 2, _ => by decide
  | 3, _ => by decide
  | 4, _ => by decide
  | 5, _ => by decide
  | 6, _ => by decide
  | k + 7, h => by omega
theorem fm_len {α : Type} (f : α → List Nm) (B : Nat) : ∀ K : List α, (∀ y ∈ K, (f y).length ≤ B) → (K.flatMap f).length ≤ K.length * B
  | [], _ => by simp
  | y :: K, h => by
    have h1 := fm_len f B K (fun z hz => h z (by simp [hz]))
    have h2 := h y (by simp)
    rw [List.flatMap_cons, List.length_append, List.length_cons, Nat.add_mul]
    omega
theorem desc_bd {L : List Ac} (hL : L.length ≤ 100) : ∀ (k : Nat) (x : Nm), (desc L k x).length ≤ bd k
  | 0, _ => by simp [desc]
  | k + 1, x => by
    rw [desc]
    have h1 := fm_len (fun y => y :: desc L k y) (1 + bd k) (kids L x) (fun y _ => by have := desc_bd hL k y; simp; omega)
    have h2 := kids_len L x
    have h3 : (kids L x).length ≤ 100 := by omega
    exact Nat.le_trans h1 (Nat.mul_le_mul_right _ h3)
def BelOut (W : World) (K : List Nm) (e : Ending) (w' : World) : Prop := ∃ p c, e = .returned (.slice p K.length c) ∧ w'.ownsRow W.heap.size 9 1 (.slice p K.length c) K.length (kT.flat K) ∧ Below W.heap.size W w'
structure BwAt (w1 : World) (l : List Nm) (lv : Value) (W : World) : Prop where
  own : W.ownsRow w1.heap.size 9 1 lv l.length (kT.flat l)
  bel : Below w1.heap.size w1 W
theorem BwAt.app {w1 W : World} {l : List Nm} {p : Option Addr} {m c : Nat} (h : BwAt w1 l (.slice p m c) W) {B : Nat} {M : List Nm} {pu : Option Addr} {cu : Nat} (hu : W.ownsRow B 9 1 (.slice pu M.length cu) M.length (kT.flat M)) (hl : l.length + M.length ≤ 1099511627776) :
    ∃ p' c' w', (Builtin.append_ #[93, 93] 93 #[.slice p m c, .slice pu M.length cu]).run Tryz.prog W = .ok (.slice p' (m + M.length) c') w' ∧ BwAt w1 (l ++ M) (.slice p' (m + M.length) c') w' ∧ m = l.length := by
  obtain ⟨p1, c1, e, _, _⟩ := row_slice h.own
  have em : m = l.length := by cases e; rfl
  subst em
  have hc : pu = none → cu = 0 := by
    obtain ⟨p2, c2, e2, q, _⟩ := row_slice hu
    cases e2
    exact fun e => (q e).2
  obtain ⟨p', c', w', r1, o1, b1, _, _⟩ := run_app kT_ok (L := l) (M := M) 93 h.own h.bel.size pu cu hc (own_lies kT_ok rfl hu) hl
  exact ⟨p', c', w', r1, ⟨by rw [List.length_append]; exact o1, h.bel.trans b1⟩, rfl⟩
theorem BwAt.one {w1 W : World} {l : List Nm} {p : Option Addr} {m c : Nat} (h : BwAt w1 l (.slice p m c) W) (y : Nm) (hl : l.length + 1 ≤ 1099511627776) :
    ∃ p' c' w', (Builtin.append_ #[93, 93] 93 #[.slice p m c, .slice (some ⟨W.heap.size, 0, none⟩) 1 1]).run Tryz.prog (W.alloc (.cells #[.string (txN y)] 9)) = .ok (.slice p' (m + 1) c') w' ∧ BwAt w1 (l ++ [y]) (.slice p' (m + 1) c') w' := by
  have hb : Below W.heap.size W (W.alloc (.cells #[.string (txN y)] 9)) := (Below.refl _ W).alloc (Nat.le_refl _) _
  obtain ⟨p1, c1, e, _, _⟩ := row_slice h.own
  have em : m = l.length := by cases e; rfl
  subst em
  obtain ⟨p', c', w', r1, o1, b1, _, _⟩ := run_app kT_ok (L := l) (M := [y]) 93 (own_below h.own hb) (Nat.le_trans h.bel.size hb.size) (some ⟨W.heap.size, 0, none⟩) 1 (fun h => by cases h) (one_lies W y 9 _ rfl) hl
  simp only [List.length_singleton] at r1 o1
  exact ⟨p', c', w', r1, ⟨by rw [List.length_append, List.length_singleton]; exact o1, (h.bel.trans (hb.mono h.bel.size)).trans b1⟩⟩
theorem take_fm {α : Type} (f : α → List Nm) {K : List α} {k : Nat} (h : k < K.length) : (K.take (k + 1)).flatMap f = (K.take k).flatMap f ++ f K[k] := by
  rw [List.take_succ_eq_append_getElem h, List.flatMap_append, List.flatMap_cons, List.flatMap_nil, List.append_nil]
theorem fm_part (f : Nm → List Nm) (B : Nat) {K : List Nm} (hK : K.length ≤ 100) (hf : ∀ y ∈ K, 1 + (f y).length ≤ B) (hB : 100 * B ≤ 1099511627776) {k : Nat} (h : k < K.length) : ((K.take k).flatMap fun y => y :: f y).length + 1 + (f K[k]).length ≤ 1099511627776 := by
  have h1 := fm_len (fun y => y :: f y) B (K.take k) (fun y hy => by have := hf y (List.mem_of_mem_take hy); simp; omega)
  have h2 := hf K[k] (List.getElem_mem h)
  rw [List.length_take, Nat.min_eq_left (Nat.le_of_lt h)] at h1
  have h3 : k * B + B ≤ 100 * B := by rw [← Nat.succ_mul]; exact Nat.mul_le_mul_right _ (by omega)
  omega
set_option maxRecDepth 100000 in
set_option maxHeartbeats 8000000 in
theorem below_step {W : World} {d : Nat} {S : Nat → Prop} {L : List Ac} {g : Gh} (h : Ct W d S L g) (x : Nm) (f : Nm → List Nm) (B : Nat) (hf : ∀ y ∈ kids L x, 1 + (f y).length ≤ B) (hB : 100 * B ≤ 1099511627776) (hx : (txN x).size ≤ 1048576)
    (IH : ∀ y ∈ kids L x, ∀ W', Below W.heap.size W W' → Calls Tryz.prog 120 #[ptr d, .string (txN y)] W' (BelOut W' (f y))) :
    Calls Tryz.prog 120 #[ptr d, .string (txN x)] W (BelOut W ((kids L x).flatMap fun y => y :: f y)) := by
  have D := kids_own h (txN x) (by omega)
  rw [txN_list] at D
  have hK : (kids L x).length ≤ 100 := Nat.le_trans (kids_len L x) h.good.len
  obtain ⟨K, hKK⟩ : ∃ K, K = kids L x := ⟨_, rfl⟩
  rw [← hKK] at D hf hK IH ⊢
  have D := hide D; have HF := hide hf; have HIH := hide IH; have HK := hide hK
  clear hf IH hKK hK h hx
  go_enter Tryz.func120, Tryz.ntmps120
  go_wp2_with fail
  refine (unhide D).mono ?_
  rintro e w1 ⟨⟨hb1, pk, rfl, hk1⟩, v, ev, ho1⟩
  have hv : v = .slice pk K.length K.length := by injection ev with ev; exact ev.symm
  subst hv
  have HB1 := hide hb1
  have HO1 : Hid (∀ V, Below w1.heap.size w1 V → ∀ k, (hk : k < K.length) → ∃ b, pk = some ⟨b, 0, none⟩ ∧ V.cell? ⟨b, k, none⟩ = some (.string (txN K[k]))) := fun V hV k hk => by
    obtain ⟨b, e, _, hlt, hc⟩ := hk1 k hk
    exact ⟨b, e, (hV.cell (p := ⟨b, k, none⟩) hlt).trans hc⟩
  have H0 : Hid (BwAt w1 [] (.slice none 0 0) w1) := ⟨World.ownsRow_nil _ _ _ _, Below.refl _ _⟩
  obtain ⟨n, hn⟩ : ∃ n, n = K.length := ⟨_, rfl⟩
  rw [← hn]
  have HN := hide hn
  have hn100 : n ≤ 100 := by have := unhide HK; omega
  clear hb1 hk1 ev ho1 D hn
  go_wp2_with fail
  go_loopw [5, 12] (fun lv iv V => ∃ (k : Nat) (I : Int), k ≤ n ∧ iv = .int .i64 I ∧ I = (k : Int) ∧ (∃ p m c, lv = .slice p m c) ∧ Hid (BwAt w1 ((K.take k).flatMap fun y => y :: f y) lv V)) (fun _ iv _ => ((n : Int) - intOf iv).toNat)
  case atStart => exact ⟨0, 0, by omega, rfl, rfl, ⟨_, _, _, rfl⟩, unhide H0⟩
  case round =>
    obtain ⟨wo, rfl⟩ : ∃ x, x = wr := ⟨wr, rfl⟩
    obtain ⟨k, I, hk, rfl, hI, ⟨p, m, c, rfl⟩, HA⟩ := hrel
    by_cases hlt : k < n
    · have hIn : I < (n : Int) := by omega
      have hI0 : 0 ≤ I := by omega
      have hIt : I.toNat = k := by omega
      have hkK : k < K.length := by have := unhide HN; omega
      obtain ⟨b, ep, hcell⟩ := unhide HO1 wo (unhide HA).bel k hkK
      obtain ⟨y, hy⟩ : ∃ y, y = K[k] := ⟨_, rfl⟩
      rw [← hy] at hcell
      have hym : y ∈ K := by rw [hy]; exact List.getElem_mem hkK
      have HT : Hid ((K.take (k + 1)).flatMap (fun y => y :: f y) = (K.take k).flatMap (fun y => y :: f y) ++ [y] ++ f y) := by
        show _ = _
        rw [take_fm _ hkK, ← hy, List.append_assoc]
        rfl
      have hbd := fm_part f B (unhide HK) (unhide HF) hB hkK
      rw [← hy] at hbd
      obtain ⟨p2, c2, w2, r2, h2⟩ := (unhide HA).one y (by omega)
      have hbw2 : Below W.heap.size W w2 := (unhide HB1).trans (h2.bel.mono (unhide HB1).size)
      have DC := hide (unhide HIH y hym w2 hbw2)
      have HR2 := hide r2; have H2 := hide h2; have HBD := hide hbd; have HI := hide hI
      subst ep
      clear hkK hlt hI hy hym hbd r2 h2 hbw2 HA
      go_wp2_with first | (at_builtin; refine wpList_append_run rfl _ _ 93 rfl _ _ _ _ rfl rfl (unhide HR2) ?_; clear HR2) | (go_at_call 120; refine (unhide DC).mono ?_)
      rintro e w3 ⟨p3, c3, rfl, ho3, hb3⟩
      have h3 : BwAt w1 ((K.take k).flatMap (fun y => y :: f y) ++ [y]) (.slice p2 (m + 1) c2) w3 := ⟨own_below (unhide H2).own hb3, (unhide H2).bel.trans (hb3.mono (unhide H2).bel.size)⟩
      obtain ⟨p4, c4, w4, r4, h4, -⟩ := h3.app ho3 (by have := unhide HBD; rw [List.length_append, List.length_singleton]; omega)
      have HR4 := hide r4
      have HNEW : Hid (BwAt w1 ((K.take (k + 1)).flatMap fun y => y :: f y) (.slice p4 (m + 1 + (f y).length) c4) w4) := by
        rw [unhide HT]
        exact h4
      clear hb3 ho3 h3 r4 h4 DC hcell
      go_wp2_with (at_builtin; refine wpList_append_run rfl _ _ 93 rfl _ _ _ _ rfl rfl (unhide HR4) ?_)
      exact ⟨⟨k + 1, I + 1, by omega, by go_num, by have := unhide HI; omega, ⟨_, _, _, rfl⟩, unhide HNEW⟩, by have := unhide HI; simp [intOf]; omega⟩
    · have hIn : ¬ I < (n : Int) := by omega
      have hkn : k = n := by omega
      have HFIN : Hid (BelOut W (K.flatMap fun y => y :: f y) (.returned (.slice p m c)) wo) := by
        have h := unhide HA
        rw [List.take_of_length_le (by have := unhide HN; omega)] at h
        obtain ⟨p', c', e, _, _⟩ := row_slice h.own
        cases e
        refine ⟨p, c, rfl, ?_, (unhide HB1).trans (h.bel.mono (unhide HB1).size)⟩
        exact row_le h.own (unhide HB1).size
      clear HA hI
      go_wp2_with fail
      go_ret
      exact unhide HFIN
set_option maxRecDepth 100000 in
set_option maxHeartbeats 8000000 in
theorem rwalk_step {W : World} {d : Nat} {S : Nat → Prop} {L : List Ac} (h : Rc W d S L) (x : Nm) (f : Nm → List Nm) (B : Nat) (hf : ∀ y ∈ kids L x, 1 + (f y).length ≤ B) (hB : 100 * B ≤ 1099511627776)
    (IH : ∀ y ∈ kids L x, ∀ W', Below W.heap.size W W' → Calls Tryz.prog 128 #[ptr d, .string (txN y)] W' (BelOut W' (f y))) :
    Calls Tryz.prog 128 #[ptr d, .string (txN x)] W (BelOut W ((kids L x).flatMap fun y => y :: f y)) := by
  have D := rkids_any h (txN x)
  rw [txN_list] at D
  have hK : (kids L x).length ≤ 100 := Nat.le_trans (kids_len L x) h.isGood.len
  obtain ⟨K, hKK⟩ : ∃ K, K = kids L x := ⟨_, rfl⟩
  rw [← hKK] at D hf hK IH ⊢
  have D := hide D; have HF := hide hf; have HIH := hide IH; have HK := hide hK
  clear hf IH hKK hK h
  go_enter Tryz.func128, Tryz.ntmps128
  go_wp2_with fail
  refine (unhide D).mono ?_
  rintro e w1 ⟨v, rfl, ho1, hb1⟩
  obtain ⟨pk, ck, ev, _, _⟩ := row_slice ho1
  subst ev
  have hlk : Lies kT w1 pk K := own_lies kT_ok rfl ho1
  have HB1 := hide hb1
  have HO1 : Hid (∀ V, Below w1.heap.size w1 V → ∀ k, (hk : k < K.length) → ∃ b o, pk = some ⟨b, o, none⟩ ∧ V.cell? ⟨b, o + k, none⟩ = some (.string (txN K[k]))) := fun V hV k hk => by
    obtain ⟨b, o, e, hlt, hr⟩ := (hlk.below hV).2 k hk
    refine ⟨b, o, e, ?_⟩
    have := hr 0 _ rfl
    simpa [kT] using this
  have H0 : Hid (BwAt w1 [] (.slice none 0 0) w1) := ⟨World.ownsRow_nil _ _ _ _, Below.refl _ _⟩
  obtain ⟨n, hn⟩ : ∃ n, n = K.length := ⟨_, rfl⟩
  rw [← hn]
  have HN := hide hn
  have hn100 : n ≤ 100 := by have := unhide HK; omega
  clear hb1 ho1 hlk D hn
  go_wp2_with fail
  go_loopw [5, 7] (fun lv iv V => ∃ (k : Nat) (I : Int), k ≤ n ∧ iv = .int .i64 I ∧ I = (k : Int) ∧ (∃ p m c, lv = .slice p m c) ∧ Hid (BwAt w1 ((K.take k).flatMap fun y => y :: f y) lv V)) (fun _ iv _ => ((n : Int) - intOf iv).toNat)
  case atStart => exact ⟨0, 0, by omega, rfl, rfl, ⟨_, _, _, rfl⟩, unhide H0⟩
  case round =>
    obtain ⟨wo, rfl⟩ : ∃ x, x = wr := ⟨wr, rfl⟩
    obtain ⟨k, I, hk, rfl, hI, ⟨p, m, c, rfl⟩, HA⟩ := hrel
    by_cases hlt : k < n
    · have hIn : I < (n : Int) := by omega
      have hI0 : 0 ≤ I := by omega
      have hIt : I.toNat = k := by omega
      have hkK : k < K.length := by have := unhide HN; omega
      obtain ⟨b, o, ep, hcell⟩ := unhide HO1 wo (unhide HA).bel k hkK
      obtain ⟨y, hy⟩ : ∃ y, y = K[k] := ⟨_, rfl⟩
      rw [← hy] at hcell
      have hym : y ∈ K := by rw [hy]; exact List.getElem_mem hkK
      have HT : Hid ((K.take (k + 1)).flatMap (fun y => y :: f y) = (K.take k).flatMap (fun y => y :: f y) ++ [y] ++ f y) := by
        show _ = _
        rw [take_fm _ hkK, ← hy, List.append_assoc]
        rfl
      have hbd := fm_part f B (unhide HK) (unhide HF) hB hkK
      rw [← hy] at hbd
      obtain ⟨p2, c2, w2, r2, h2⟩ := (unhide HA).one y (by omega)
      have hbw2 : Below W.heap.size W w2 := (unhide HB1).trans (h2.bel.mono (unhide HB1).size)
      obtain ⟨b', o', ep', hcell2⟩ := unhide HO1 w2 h2.bel k hkK
      subst ep
      have eo : b' = b ∧ o' = o := by injection ep' with e; injection e with e1 e2; exact ⟨e1.symm, e2.symm⟩
      obtain ⟨rfl, rfl⟩ := eo
      rw [← hy] at hcell2
      have DC := hide (unhide HIH y hym w2 hbw2)
      have HR2 := hide r2; have H2 := hide h2; have HBD := hide hbd; have HI := hide hI
      clear hkK hlt hI hy hym hbd r2 h2 hbw2 HA ep'
      go_wp2_with first | (at_builtin; refine wpList_append_run rfl _ _ 93 rfl _ _ _ _ rfl rfl (unhide HR2) ?_; clear HR2) | (go_at_call 128; refine (unhide DC).mono ?_)
      rintro e w3 ⟨p3, c3, rfl, ho3, hb3⟩
      have h3 : BwAt w1 ((K.take k).flatMap (fun y => y :: f y) ++ [y]) (.slice p2 (m + 1) c2) w3 := ⟨own_below (unhide H2).own hb3, (unhide H2).bel.trans (hb3.mono (unhide H2).bel.size)⟩
      obtain ⟨p4, c4, w4, r4, h4, -⟩ := h3.app ho3 (by have := unhide HBD; rw [List.length_append, List.length_singleton]; omega)
      have HR4 := hide r4
      have HNEW : Hid (BwAt w1 ((K.take (k + 1)).flatMap fun y => y :: f y) (.slice p4 (m + 1 + (f y).length) c4) w4) := by
        rw [unhide HT]
        exact h4
      clear hb3 ho3 h3 r4 h4 DC hcell hcell2
      go_wp2_with (at_builtin; refine wpList_append_run rfl _ _ 93 rfl _ _ _ _ rfl rfl (unhide HR4) ?_)
      exact ⟨⟨k + 1, I + 1, by omega, by go_num, by have := unhide HI; omega, ⟨_, _, _, rfl⟩, unhide HNEW⟩, by have := unhide HI; simp [intOf]; omega⟩
    · have hIn : ¬ I < (n : Int) := by omega
      have hkn : k = n := by omega
      have HFIN : Hid (BelOut W (K.flatMap fun y => y :: f y) (.returned (.slice p m c)) wo) := by
        have h := unhide HA
        rw [List.take_of_length_le (by have := unhide HN; omega)] at h
        obtain ⟨p', c', e, _, _⟩ := row_slice h.own
        cases e
        refine ⟨p, c, rfl, ?_, (unhide HB1).trans (h.bel.mono (unhide HB1).size)⟩
        exact row_le h.own (unhide HB1).size
      clear HA hI
      go_wp2_with fail
      go_ret
      exact unhide HFIN
theorem kid_isN {L : List Ac} {x y : Nm} (hy : y ∈ kids L x) : ∃ a ∈ L, a.nm = y := (mem_kids.1 hy).1
theorem no_kids {L : List Ac} (hG : Good L) {x : Nm} (hd : 6 ≤ dep x) : kids L x = [] := by
  cases hk : kids L x with
  | nil => rfl
  | cons y K =>
    have hy : y ∈ kids L x := by rw [hk]; simp
    obtain ⟨a, ha, e⟩ := kid_isN hy
    have h1 := kid_dep hG hy
    have h2 := dep_le hG ha
    rw [e] at h2
    omega
theorem name_sz {L : List Ac} (hG : Good L) {x : Nm} (hx : x = [] ∨ ∃ a ∈ L, a.nm = x) : (txN x).size ≤ 1048576 := by
  rcases hx with rfl | ⟨a, ha, rfl⟩
  · decide
  · have := name_short (hG.name a ha)
    show a.nm.toArray.size ≤ _
    simp
    omega
theorem bd_small (k : Nat) (hk : k < 6) : 100 * (1 + bd k) ≤ 1099511627776 := by
  have := bd_le (k + 1) (by omega)
  rw [bd] at this
  omega
theorem below_all {W : World} {d : Nat} {S : Nat → Prop} {L : List Ac} {g : Gh} (h : Ct W d S L g) : ∀ (k : Nat), k ≤ 6 → ∀ x : Nm, (x = [] ∨ ∃ a ∈ L, a.nm = x) → 6 ≤ dep x + k → ∀ W', Below W.heap.size W W' → Calls Tryz.prog 120 #[ptr d, .string (txN x)] W' (BelOut W' (desc L k x))
  | 0, _, x, hx, hd, W', hb => by
    have e := no_kids h.good (x := x) (by omega)
    have := below_step (h.below hb) x (fun _ => []) 1 (fun y hy => by rw [e] at hy; cases hy) (by omega) (name_sz h.good hx) (fun y hy => by rw [e] at hy; cases hy)
    rw [e] at this
    exact this
  | k + 1, hk, x, hx, hd, W', hb => by
    rw [desc]
    refine below_step (h.below hb) x (desc L k) (1 + bd k) (fun y _ => by have := desc_bd h.good.len k y; omega) (bd_small k (by omega)) (name_sz h.good hx) (fun y hy W2 hb2 => ?_)
    exact below_all h k (by omega) y (.inr (kid_isN hy)) (by have := kid_dep h.good hy; omega) W2 (hb.trans (hb2.mono hb.size))
theorem rwalk_all {W : World} {d : Nat} {S : Nat → Prop} {L : List Ac} (h : Rc W d S L) : ∀ (k : Nat), k ≤ 6 → ∀ x : Nm, (x = [] ∨ ∃ a ∈ L, a.nm = x) → 6 ≤ dep x + k → ∀ W', Below W.heap.size W W' → Calls Tryz.prog 128 #[ptr d, .string (txN x)] W' (BelOut W' (desc L k x))
  | 0, _, x, hx, hd, W', hb => by
    have e := no_kids h.isGood (x := x) (by omega)
    have := rwalk_step (h.below hb) x (fun _ => []) 1 (fun y hy => by rw [e] at hy; cases hy) (by omega) (fun y hy => by rw [e] at hy; cases hy)
    rw [e] at this
    exact this
  | k + 1, hk, x, hx, hd, W', hb => by
    rw [desc]
    refine rwalk_step (h.below hb) x (desc L k) (1 + bd k) (fun y _ => by have := desc_bd h.isGood.len k y; omega) (bd_small k (by omega)) (fun y hy W2 hb2 => ?_)
    exact rwalk_all h k (by omega) y (.inr (kid_isN hy)) (by have := kid_dep h.isGood hy; omega) W2 (hb.trans (hb2.mono hb.size))
theorem below_any {W : World} {d : Nat} {S : Nat → Prop} {L : List Ac} {g : Gh} (h : Ct W d S L g) : Calls Tryz.prog 120 #[ptr d, .string ⟨#[]⟩] W (BelOut W (desc L 6 [])) := below_all h 6 (by omega) [] (.inl rfl) (by omega) W (Below.refl _ _)
theorem rwalk_any {W : World} {d : Nat} {S : Nat → Prop} {L : List Ac} (h : Rc W d S L) : Calls Tryz.prog 128 #[ptr d, .string ⟨#[]⟩] W (BelOut W (desc L 6 [])) := rwalk_all h 6 (by omega) [] (.inl rfl) (by omega) W (Below.refl _ _)
end Go.Proofs.YtcafhmlpmbkhkaaGreatDoor.Ch
