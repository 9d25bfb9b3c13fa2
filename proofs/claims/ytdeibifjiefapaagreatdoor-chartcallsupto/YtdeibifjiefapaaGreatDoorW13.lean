import Derived.Test.YtdeibifjiefapaaGreatDoorW12
/- chart: one account more: plain theory, and the tree in memory. -/
namespace Go.Proofs.YtdeibifjiefapaaGreatDoor
open Go Go.Shelf Go.ChangeShapes Go.WideShapes Go.ChangeAt Go.RowKit Go.Maps Go.Sort
set_option linter.unusedVariables false
/-- one account more -/
def insA (L : List Ac) (a : Ac) : List Ac := (L.filter fun b => decide (b.nm < a.nm)) ++ a :: (L.filter fun b => decide (a.nm < b.nm))
theorem mem_insA {L : List Ac} {a : Ac} (hn : ¬ ∃ b ∈ L, b.nm = a.nm) {b : Ac} : b ∈ insA L a ↔ b = a ∨ b ∈ L := by
  simp only [insA, List.mem_append, List.mem_filter, List.mem_cons, decide_eq_true_eq]
  constructor
  · rintro (⟨h, _⟩ | rfl | ⟨h, _⟩)
    · exact .inr h
    · exact .inl rfl
    · exact .inr h
  · rintro (rfl | h)
    · exact .inr (.inl rfl)
    · by_cases h1 : b.nm < a.nm
      · exact .inl ⟨h, h1⟩
      · by_cases h2 : a.nm < b.nm
        · exact .inr (.inr ⟨h, h2⟩)
        · exact absurd ⟨b, h, slt_tri h1 h2⟩ hn
theorem split_at {K : List Nm} (hK : K.Pairwise (· < ·)) {x : Nm} (hx : x ∉ K) : K.filter (fun y => decide (y < x)) = K.take (posK K x) ∧ K.filter (fun y => decide (x < y)) = K.drop (posK K x) := by
  unfold posK
  induction K with
  | nil => simp
  | cons k K ih =>
    rw [List.pairwise_cons] at hK
    obtain ⟨i1, i2⟩ := ih hK.2 (fun h => hx (List.mem_cons_of_mem _ h))
    by_cases h1 : k < x
    · have h2 : ¬ x < k := fun h => slt_irrefl _ (slt_trans h h1)
      rw [List.filter_cons_of_pos (by simpa using h1), List.filter_cons_of_neg (by simpa using h2), List.countP_cons_of_pos (by simpa using h1), i1, i2]
      exact ⟨rfl, rfl⟩
    · have h2 : x < k := by
        by_cases h2 : x < k
        · exact h2
        · exact absurd (by rw [slt_tri h1 h2]; exact List.mem_cons_self ..) hx
      have h3 : ∀ y ∈ K, ¬ y < x := fun y hy h => slt_irrefl _ (slt_trans h2 (slt_trans (hK.1 y hy) h))
      have h4 : ∀ y ∈ K, x < y := fun y hy => slt_trans h2 (hK.1 y hy)
      have c0 : List.countP (fun y => decide (y < x)) (k :: K) = 0 := by
        rw [List.countP_eq_zero]
        intro y hy
        rcases List.mem_cons.1 hy with rfl | hy
        · simpa using h1
        · simpa using h3 y hy
      rw [c0]
      refine ⟨?_, ?_⟩
      · rw [List.take_zero, List.filter_eq_nil_iff]
        intro y hy
        rcases List.mem_cons.1 hy with rfl | hy
        · simpa using h1
        · simpa using h3 y hy
      · rw [List.drop_zero, List.filter_eq_self]
        intro y hy
        rcases List.mem_cons.1 hy with rfl | hy
        · simpa using h2
        · simpa using h4 y hy
/-- those right below, with one account more -/
theorem kids_ins {L : List Ac} (hG : Good L) {a : Ac} (hn : ¬ ∃ b ∈ L, b.nm = a.nm) (x : Nm) :
    kids (insA L a) x = if par a.nm = x then (kids L x).take (posK (kids L x) a.nm) ++ a.nm :: (kids L x).drop (posK (kids L x) a.nm) else kids L x := by
  have hnk : a.nm ∉ kids L x := fun h => by
    obtain ⟨⟨b, hb, e⟩, _⟩ := mem_kids.1 h
    exact hn ⟨b, hb, e⟩
  obtain ⟨s1, s2⟩ := split_at (hG.kids_rise x) hnk
  have f1 : ∀ (q : Nm → Bool), ((L.filter fun b => q b.nm).filter fun b => decide (par b.nm = x)).map (·.nm) = (kids L x).filter q := fun q => by
    rw [kids, List.filter_map, List.filter_filter, List.filter_filter]
    congr 2
    funext b
    simp only [Function.comp]
    exact Bool.and_comm _ _
  have e1 : kids (insA L a) x = (kids L x).filter (fun y => decide (y < a.nm)) ++ ((([a].filter fun b => decide (par b.nm = x)).map (·.nm)) ++ (kids L x).filter (fun y => decide (a.nm < y))) := by
    rw [← f1 (fun y => decide (y < a.nm)), ← f1 (fun y => decide (a.nm < y)), ← List.map_append, ← List.map_append, ← List.filter_append, ← List.filter_append]
    rfl
  rw [e1, s1, s2]
  by_cases hp : par a.nm = x
  · rw [if_pos hp, List.filter_cons_of_pos (by simpa using hp)]
    rfl
  · rw [if_neg hp, List.filter_cons_of_neg (by simpa using hp)]
    show List.take _ _ ++ ([] ++ List.drop _ _) = _
    rw [List.nil_append, List.take_append_drop]
/-- an account that may come -/
structure Fits (L : List Ac) (a : Ac) : Prop where
  new : ¬ ∃ b ∈ L, b.nm = a.nm
  nam : nameL a.nm = true
  day : 1 ≤ a.dy ∧ a.dy ≤ 3652059
  typ : 1 ≤ a.ty ∧ a.ty ≤ 5
  up : ∀ p t, ups a.nm = p :: t → ∃ b ∈ L, b.nm = p ∧ b.ty = a.ty ∧ b.dy ≤ a.dy ∧ (b.cl = true → a.cl = true)
  len : L.length < 100
theorem ins_len {L : List Ac} {a : Ac} (hr : L.Pairwise fun a b => a.nm < b.nm) (hn : ¬ ∃ b ∈ L, b.nm = a.nm) : (insA L a).length = L.length + 1 := by
  have h1 : (L.filter fun b => decide (b.nm < a.nm)).length + (L.filter fun b => decide (a.nm < b.nm)).length = L.length := by
    clear hr
    induction L with
    | nil => rfl
    | cons b L ih =>
      have ih' := ih (fun ⟨c, hc, e⟩ => hn ⟨c, List.mem_cons_of_mem _ hc, e⟩)
      by_cases h1 : b.nm < a.nm
      · have h2 : ¬ a.nm < b.nm := fun h => slt_irrefl _ (slt_trans h h1)
        rw [List.filter_cons_of_pos (by simpa using h1), List.filter_cons_of_neg (by simpa using h2)]
        simp
        omega
      · have h2 : a.nm < b.nm := by
          by_cases h2 : a.nm < b.nm
          · exact h2
          · exact absurd ⟨b, List.mem_cons_self .., slt_tri h1 h2⟩ hn
        rw [List.filter_cons_of_neg (by simpa using h1), List.filter_cons_of_pos (by simpa using h2)]
        simp
        omega
  simp [insA]
  omega
theorem Good.ins {L : List Ac} (h : Good L) {a : Ac} (ha : Fits L a) : Good (insA L a) := by
  refine ⟨?_, fun b hb => ?_, fun b hb p t e => ?_, fun b hb => ?_, fun b hb => ?_, by rw [ins_len h.rise ha.new]; exact ha.len⟩
  · unfold insA
    rw [List.pairwise_append, List.pairwise_cons]
    refine ⟨h.rise.filter _, ⟨fun b hb => ?_, h.rise.filter _⟩, fun b hb c hc => ?_⟩
    · simpa using (List.mem_filter.1 hb).2
    · have h1 : b.nm < a.nm := by simpa using (List.mem_filter.1 hb).2
      rcases List.mem_cons.1 hc with rfl | hc
      · exact h1
      · exact slt_trans h1 (by simpa using (List.mem_filter.1 hc).2)
  · rcases (mem_insA ha.new).1 hb with rfl | hb
    · exact ha.nam
    · exact h.name b hb
  · rcases (mem_insA ha.new).1 hb with rfl | hb
    · obtain ⟨c, hc, h2⟩ := ha.up p t e
      exact ⟨c, (mem_insA ha.new).2 (.inr hc), h2⟩
    · obtain ⟨c, hc, h2⟩ := h.up b hb p t e
      exact ⟨c, (mem_insA ha.new).2 (.inr hc), h2⟩
  · rcases (mem_insA ha.new).1 hb with rfl | hb
    · exact ha.day
    · exact h.day b hb
  · rcases (mem_insA ha.new).1 hb with rfl | hb
    · exact ha.typ
    · exact h.typ b hb
theorem isN_par {L : List Ac} {a : Ac} (ha : Fits L a) : isN L (par a.nm) := by
  rcases ups_cases a.nm with e | ⟨p, e, _⟩
  · left; rw [par, e]; rfl
  · right
    obtain ⟨b, hb, e2, _⟩ := ha.up p _ e
    exact ⟨b, hb, by rw [par, e]; exact e2⟩
theorem isN_ins {L : List Ac} {a : Ac} (hn : ¬ ∃ b ∈ L, b.nm = a.nm) {x : Nm} : isN (insA L a) x ↔ x = a.nm ∨ isN L x := by
  unfold isN
  constructor
  · rintro (h | ⟨b, hb, rfl⟩)
    · exact .inr (.inl h)
    · rcases (mem_insA hn).1 hb with rfl | hb
      · exact .inl rfl
      · exact .inr (.inr ⟨b, hb, rfl⟩)
  · rintro (rfl | h | ⟨b, hb, rfl⟩)
    · exact .inr ⟨a, (mem_insA hn).2 (.inl rfl), rfl⟩
    · exact .inl h
    · exact .inr ⟨b, (mem_insA hn).2 (.inr hb), rfl⟩
/-- nothing is right below a name that is not there yet -/
theorem kids_new {L : List Ac} (hG : Good L) {a : Ac} (ha : Fits L a) : kids L a.nm = [] := by
  cases e : kids L a.nm with
  | nil => rfl
  | cons y t =>
    exfalso
    obtain ⟨⟨b, hb, hby⟩, hp⟩ := mem_kids.1 (show y ∈ kids L a.nm by rw [e]; exact List.mem_cons_self ..)
    subst hby
    rcases ups_cases b.nm with e2 | ⟨p, e2, _⟩
    · rw [par, e2] at hp
      exact name_ne ha.nam hp.symm
    · obtain ⟨c, hc, hcp, _⟩ := hG.up b hb p _ e2
      rw [par, e2] at hp
      have hp' : p = a.nm := hp
      exact ha.new ⟨c, hc, hcp.trans hp'⟩
theorem par_self {a : Ac} (h : nameL a.nm = true) : par a.nm ≠ a.nm := fun e => by
  have := par_lt (name_ne h)
  rw [e] at this
  omega

theorem ptr_inj {a b : Nat} (h : ptr a = ptr b) : a = b := by
  injection h with h
  injection h with h
  injection h with h
theorem ChAt.row_inj {W : World} {d : Nat} {S : Nat → Prop} {L : List Ac} {g : Gh} (h : ChAt W d S L g) {x y : Nm} {q : Nat} (hx : isN L x) (hy : isN L y) (ex : g.kb x = some q) (ey : g.kb y = some q) : x = y := by
  have key : ∀ z, isN L z → g.kb z = some q → ∃ k t, kids L z = k :: t ∧ W.cell? ⟨q, 0, none⟩ = some (ptr (g.nd k)) := fun z hz ez => by
    rcases h.row z hz with ⟨_, h2, _⟩ | ⟨q2, h1, h2, h3, h4, _⟩
    · rw [ez] at h2; cases h2
    · rw [ez] at h1
      injection h1 with h1
      subst h1
      cases e : kids L z with
      | nil => exact absurd e h4
      | cons k t =>
        refine ⟨k, t, rfl, cell_of h2 ?_⟩
        rw [rowA, e]
        simp
  obtain ⟨k, t, e1, c1⟩ := key x hx ex
  obtain ⟨k', t', e2, c2⟩ := key y hy ey
  rw [c1] at c2
  injection c2 with c2
  have hk : k ∈ kids L x := by rw [e1]; exact List.mem_cons_self ..
  have hk' : k' ∈ kids L y := by rw [e2]; exact List.mem_cons_self ..
  obtain ⟨⟨a, ha, rfl⟩, p1⟩ := mem_kids.1 hk
  obtain ⟨⟨b, hb, rfl⟩, p2⟩ := mem_kids.1 hk'
  have := h.inj ha hb (ptr_inj c2)
  rw [← p1, ← p2, this]
/-- where things lie with one account more -/
def insG (g : Gh) (a : Nm) (p : Nm) (nb q' c' : Nat) (ex' : List Value) : Gh :=
  ⟨fun y => if y = a then nb else g.nd y, fun y => if y = p then some q' else if y = a then none else g.kb y, fun y => if y = p then c' else if y = a then 0 else g.kc y, fun y => if y = p then ex' else if y = a then [] else g.ex y⟩
theorem ChAt.ins {W W' : World} {d : Nat} {S : Nat → Prop} {L : List Ac} {g : Gh} {a : Ac} {p : Nm} {nb q' c' i : Nat} {ex' : List Value} (h : ChAt W d S L g) (hG : Good L) (ha : Fits L a) (hp : par a.nm = p) (hi : i = posK (kids L p) a.nm)
    (hnb : W'.heap[nb]? = some (.cells (cellsA a (.slice none 0 0)) 68))
    (hrow : RowP W' q' (((kids L p).map g.nd).take i ++ nb :: ((kids L p).map g.nd).drop i) ex') (hcap : (kids L p).length + 1 + ex'.length = c') (hbig : c' ≤ maxLen)
    (hpar : ∀ arr t, W.heap[g.nd p]? = some (.cells arr t) → W'.heap[g.nd p]? = some (.cells (arr.setIfInBounds 4 (.slice (some ⟨q', 0, none⟩) ((kids L p).length + 1) c')) t))
    (hoth : ∀ k, S k → k ≠ g.nd p → g.kb p ≠ some k → W'.heap[k]? = W.heap[k]?) :
    ChAt W' d (fun k => S k ∨ k = nb ∨ k = q') (insA L a) (insG g a.nm p nb q' c' ex') := by
  have h0 : a.nm ≠ [] := name_ne ha.nam
  have hpN : isN L p := by rw [← hp]; exact isN_par ha
  have hpa : p ≠ a.nm := by rw [← hp]; exact par_self ha.nam
  have hap : ¬ a.nm = p := fun e => hpa e.symm
  have kp : kids (insA L a) p = (kids L p).take i ++ a.nm :: (kids L p).drop i := by rw [kids_ins hG ha.new, if_pos hp, hi]
  have ko : ∀ x, x ≠ p → kids (insA L a) x = kids L x := fun x hx => by rw [kids_ins hG ha.new, if_neg (fun e => hx (e.symm.trans hp))]
  have kpl : (kids (insA L a) p).length = (kids L p).length + 1 := by
    rw [kp]
    simp
    have := posK_le (kids L p) a.nm
    omega
  have ka : kids (insA L a) a.nm = [] := by rw [ko _ (fun e => hpa e.symm)]; exact kids_new hG ha
  have sp : ksl (insG g a.nm p nb q' c' ex') (insA L a) p = .slice (some ⟨q', 0, none⟩) ((kids L p).length + 1) c' := by
    rw [ksl, kpl]
    simp [insG]
  have so : ∀ x, x ≠ p → x ≠ a.nm → ksl (insG g a.nm p nb q' c' ex') (insA L a) x = ksl g L x := fun x h1 h2 => by
    rw [ksl, ksl, ko x h1]
    simp [insG, h1, h2]
  have sa : ksl (insG g a.nm p nb q' c' ex') (insA L a) a.nm = .slice none 0 0 := by
    rw [ksl, ka]
    simp [insG, hap]
  have rowT : ∀ {x : Nm} {q : Nat}, isN L x → g.kb x = some q → ∃ c, W.heap[q]? = some (Obj.cells c 98) := fun {x q} hx e => by
    rcases h.row x hx with ⟨_, h2, _⟩ | ⟨q2, h1, h2, _⟩
    · rw [e] at h2; cases h2
    · rw [e] at h1
      injection h1 with h1
      subst h1
      exact ⟨_, h2⟩
  have typ : ∀ {k : Nat} {c c2 : Array Value} {t t2 : TypeId}, W.heap[k]? = some (Obj.cells c t) → W.heap[k]? = some (Obj.cells c2 t2) → t = t2 := fun h1 h2 => by
    rw [h1] at h2
    injection h2 with h2
    injection h2
  have noK : ∀ {x : Nm} {q : Nat}, isN L x → g.kb x = some q → ∀ {c : Array Value} {t : TypeId}, W.heap[q]? = some (Obj.cells c t) → t = 98 := fun {x q} hx e {c t} hc => by
    obtain ⟨c2, h2⟩ := rowT hx e
    exact typ hc h2
  have nodeP : p = [] ∨ ∃ b ∈ L, b.nm = p ∧ W.heap[g.nd p]? = some (.cells (cellsA b (ksl g L b.nm)) 68) := by
    rcases hpN with e | ⟨b, hb, e⟩
    · exact .inl e
    · exact .inr ⟨b, hb, e, by rw [← e]; exact h.node b hb⟩
  have ndO : ∀ x, x ≠ a.nm → (insG g a.nm p nb q' c' ex').nd x = g.nd x := fun x hx => by simp [insG, hx]
  have kidN : ∀ x, ∀ y ∈ kids L x, y ≠ a.nm := fun x y hy e => by
    obtain ⟨⟨b, hb, e2⟩, _⟩ := mem_kids.1 hy
    exact ha.new ⟨b, hb, e2.trans e⟩
  have mapO : ∀ x, (kids L x).map (fun y => ptr ((insG g a.nm p nb q' c' ex').nd y)) = (kids L x).map (fun y => ptr (g.nd y)) := fun x => List.map_congr_left (fun y hy => by rw [ndO y (kidN x y hy)])
  refine ⟨?_, ?_, fun b hb => ?_, fun x hx => ?_, .inl h.sd, fun b hb => ?_, fun x q hx hq => ?_⟩
  · rw [ndO [] (fun e => h0 e.symm)]; exact h.top
  · by_cases e : p = []
    · have h1 := hpar _ _ (by rw [e, h.top]; exact h.tn)
      have hd : g.nd p = d := by rw [e]; exact h.top
      rw [hd] at h1
      have sp' := sp
      rw [e] at sp'
      have e2 : ksl (insG g a.nm p nb q' c' ex') (insA L a) [] = .slice (some ⟨q', 0, none⟩) ((kids L p).length + 1) c' := by rw [e]; exact sp'
      rw [e2, h1]
      rfl
    · rw [so [] (fun e2 => e e2.symm) (fun e2 => h0 e2.symm)]
      refine (hoth d h.sd (fun e2 => ?_) (fun e2 => ?_)).trans h.tn
      · rcases nodeP with e3 | ⟨b, hb, e3, h3⟩
        · exact e e3
        · rw [← e2] at h3
          exact absurd (typ h.tn h3) (by decide)
      · exact absurd (noK hpN e2 h.tn) (by decide)
  · rcases (mem_insA ha.new).1 hb with rfl | hb
    · rw [sa]
      have : (insG g b.nm p nb q' c' ex').nd b.nm = nb := by simp [insG]
      rw [this]
      exact hnb
    · have hba : b.nm ≠ a.nm := fun e => ha.new ⟨b, hb, e⟩
      rw [ndO _ hba]
      by_cases e : b.nm = p
      · rw [e, sp]
        have h1 := hpar _ _ (by rw [← e]; exact h.node b hb)
        rw [h1]
        rfl
      · rw [so _ e hba]
        refine (hoth _ (h.sn b hb) (fun e2 => ?_) (fun e2 => ?_)).trans (h.node b hb)
        · rcases nodeP with e3 | ⟨b2, hb2, e3, h3⟩
          · rw [e3, h.top] at e2
            have := h.node b hb
            rw [e2] at this
            exact absurd (typ h.tn this) (by decide)
          · exact e ((h.inj hb hb2 (by rw [e3]; exact e2)).trans e3)
        · exact absurd (noK hpN e2 (h.node b hb)) (by decide)
  · by_cases e : x = p
    · right
      subst e
      refine ⟨q', by simp [insG], ?_, by rw [kpl]; simp [insG]; exact hcap, by rw [kp]; simp, by simp [insG]; exact hbig⟩
      have e1 : rowA (insG g a.nm x nb q' c' ex') (insA L a) x = ((((kids L x).map g.nd).take i ++ nb :: ((kids L x).map g.nd).drop i).map ptr ++ ex').toArray := by
        rw [rowA, kp, List.map_append, List.map_cons]
        have t1 : ((kids L x).take i).map (fun y => ptr ((insG g a.nm x nb q' c' ex').nd y)) = (((kids L x).map g.nd).take i).map ptr := by
          rw [List.map_take, mapO x, ← List.map_take, ← List.map_take, List.map_map]
          rfl
        have t2 : ((kids L x).drop i).map (fun y => ptr ((insG g a.nm x nb q' c' ex').nd y)) = (((kids L x).map g.nd).drop i).map ptr := by
          rw [List.map_drop, mapO x, ← List.map_drop, ← List.map_drop, List.map_map]
          rfl
        have t3 : (insG g a.nm x nb q' c' ex').nd a.nm = nb := by simp [insG]
        have t4 : (insG g a.nm x nb q' c' ex').ex x = ex' := by simp [insG]
        rw [t1, t2, t3, t4, List.map_append, List.map_cons]
      rw [e1]
      exact hrow
    · by_cases e2 : x = a.nm
      · left
        rw [e2, ka]
        simp [insG, hap]
      · have hxN : isN L x := by
          rcases (isN_ins ha.new).1 hx with h1 | h1
          · exact absurd h1 e2
          · exact h1
        have ekb : (insG g a.nm p nb q' c' ex').kb x = g.kb x := by simp [insG, e, e2]
        have ekc : (insG g a.nm p nb q' c' ex').kc x = g.kc x := by simp [insG, e, e2]
        have eex : (insG g a.nm p nb q' c' ex').ex x = g.ex x := by simp [insG, e, e2]
        rw [ekb, ekc, eex, ko x e]
        rcases h.row x hxN with h1 | ⟨q, h1, h2, h3⟩
        · exact .inl h1
        · refine .inr ⟨q, h1, ?_, h3⟩
          have er : rowA (insG g a.nm p nb q' c' ex') (insA L a) x = rowA g L x := by rw [rowA, rowA, ko x e, mapO x, eex]
          rw [er]
          refine (hoth q (h.sq x q hxN h1) (fun e3 => ?_) (fun e3 => e (h.row_inj hxN hpN h1 e3))).trans h2
          rcases nodeP with e4 | ⟨b2, hb2, e4, h4⟩
          · rw [e4, h.top] at e3
            rw [e3] at h2
            exact absurd (typ h.tn h2) (by decide)
          · rw [e3] at h2
            exact absurd (typ h4 h2) (by decide)
  · rcases (mem_insA ha.new).1 hb with rfl | hb
    · exact .inr (.inl (by simp [insG]))
    · rw [ndO _ (fun e => ha.new ⟨b, hb, e⟩)]
      exact .inl (h.sn b hb)
  · by_cases e : x = p
    · subst e
      have : q' = q := by simpa [insG] using hq
      exact .inr (.inr this.symm)
    · by_cases e2 : x = a.nm
      · rw [e2] at hq
        simp [insG, hap] at hq
      · have hxN : isN L x := by
          rcases (isN_ins ha.new).1 hx with h1 | h1
          · exact absurd h1 e2
          · exact h1
        have ekb : (insG g a.nm p nb q' c' ex').kb x = g.kb x := by simp [insG, e, e2]
        rw [ekb] at hq
        exact .inl (h.sq x q hxN hq)
end Go.Proofs.YtdeibifjiefapaaGreatDoor
