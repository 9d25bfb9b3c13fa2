import Derived.Test.YtbenciieenbmeaaGreatDoorV02
/- answer: totals of rows, and of two parts of them (no program in it). -/
namespace Go.Proofs.YtbenciieenbmeaaGreatDoor
open Go Go.Shelf Go.ChangeShapes Go.WideShapes Go.ChangeAt Go.RowKit Go.Maps Go.Sort
set_option linter.unusedVariables false
set_option maxRecDepth 100000
set_option maxHeartbeats 4000000
/-- the query without By, Orders and Limit -/
def tq (q : Qy) : Qy := ⟨q.nodes, q.wh, [], q.sh, [], -1⟩
theorem tq_F (q : Qy) : scF (tq q) = [] := rfl
/-- what one of Show is laid as -/
def shT (q : Qy) (x : Int × Int) : Ag := ⟨x.1, if x.1 = 1 then 0 else x.2, colT (tyL q.nodes) x⟩
theorem tq_chk {q : Qy} (h : okQ (tq q) = true) : chkL (tq q) = q.sh.map (colT (tyL q.nodes)) := by
  rw [(chk_ok h).2]; unfold colS; rfl
theorem tq_sh {q : Qy} (h : okQ (tq q) = true) : shL (chkL (tq q)) 0 q.sh = q.sh.map (shT q) := by
  rw [tq_chk h]
  unfold shL
  refine List.ext_getElem (by simp) (fun i h1 h2 => ?_)
  rw [List.getElem_mapIdx, List.getElem_map]
  unfold shA shT
  have hi : i < q.sh.length := by simpa using h1
  simp [List.getD_eq_getElem?_getD, hi]
theorem tq_S {q : Qy} (h : okQ (tq q) = true) : scS (tq q) = onD (q.sh.map (shT q)) := by
  unfold scS
  show onD (shL (chkL (tq q)) 0 q.sh) = _
  rw [tq_sh h]
/-- the value of one of Show over rows -/
noncomputable def totC (q : Qy) (R : List Ro) (x : Int × Int) : Cl := tlC (talR q (R.filter (cntB q)) (shT q x)).1 (talR q (R.filter (cntB q)) (shT q x)).2 (shT q x).kd (shT q x).ty
theorem φ_tot (q : Qy) (R : List Ro) (x : Ag) : φR (tq q) [] R noK x = talR q (R.filter (cntB q)) x := by
  unfold φR
  rw [List.filter_congr (fun r _ => inK_none (tq q) r)]
  rfl
/-- is there a least or a greatest among what is shown? -/
def endQ (q : Qy) : Bool := endsB (q.sh.map (shT q))
theorem ends_onD (L : List Ag) : endsB (onD L) = endsB L := by
  unfold endsB
  rw [Bool.eq_iff_iff, List.any_eq_true, List.any_eq_true]
  exact ⟨fun ⟨x, h1, h2⟩ => ⟨x, (mem_onD _ _).1 h1, h2⟩, fun ⟨x, h1, h2⟩ => ⟨x, (mem_onD _ _).2 h1, h2⟩⟩
/-- is there a row of totals? -/
noncomputable def oneQ (q : Qy) (R : List Ro) : Bool := !(endQ q) || !(R.filter (cntB q)).isEmpty
theorem tq_ks {q : Qy} (h : okQ (tq q) = true) (R : List Ro) : ksF (tq q) [] (scS (tq q)) R = if oneQ q R = true then [noK] else [] := by
  have hR : ksR (tq q) [] R = if (R.filter (cntB q)).isEmpty = true then [] else [noK] := by
    have h1 : ksR (tq q) [] R = [] ∨ ksR (tq q) [] R = [noK] := by
      refine one_all (nodup_onD _) (fun y hy => ?_)
      unfold ksR at hy
      rw [mem_onD, List.mem_map] at hy
      obtain ⟨r, _, rfl⟩ := hy
      rfl
    cases hf : R.filter (cntB q) with
    | nil =>
      have : ksR (tq q) [] R = onD ((R.filter (cntB q)).map (keyK [])) := rfl
      rw [this, hf]; rfl
    | cons r L =>
      rcases h1 with h1 | h1
      · have hm : noK ∈ ksR (tq q) [] R := by
          have : ksR (tq q) [] R = onD ((R.filter (cntB q)).map (keyK [])) := rfl
          rw [this, mem_onD, hf]
          exact List.mem_map.2 ⟨r, by simp, rfl⟩
        rw [h1] at hm; cases hm
      · rw [h1]; rfl
  have hE : endsB (scS (tq q)) = endQ q := by rw [tq_S h, ends_onD]; rfl
  unfold ksF
  rw [hE, hR]
  unfold oneQ
  cases he : endQ q <;> cases hf : (R.filter (cntB q)).isEmpty <;> simp
theorem tq_lines {q : Qy} (h : okQ (tq q) = true) (R : List Ro) : linesL (tq q) (scF (tq q)) (scS (tq q)) R = if oneQ q R = true then [(onD (q.sh.map (shT q))).map (fun x => tlC (talR q (R.filter (cntB q)) x).1 (talR q (R.filter (cntB q)) x).2 x.kd x.ty)] else [] := by
  rw [tq_F]
  unfold linesL
  rw [tq_ks h]
  split
  · simp only [List.map_cons, List.map_nil, lnC, List.length_nil, List.take_zero, List.nil_append, tq_S h, φ_tot]
  · rfl
theorem tq_P {q : Qy} (h : okQ (tq q) = true) : scP (tq q) = onP (q.sh.map (shT q)) := by
  unfold scP plL
  show onP [] ++ (onP (shL (chkL (tq q)) 0 q.sh)).map (fun z => ((onD ([] : List Int)).length : Int) + z) = _
  rw [tq_sh h]
  have e : (fun z : Int => ((onD ([] : List Int)).length : Int) + z) = id := by funext z; show (0 : Int) + z = z; omega
  rw [e, List.map_id]
  rfl
theorem rowL_on {κ : Type} [DecidableEq κ] (L : List κ) (f : κ → Cl) : rowL (onP L) ((onD L).map f) = L.map f := by
  unfold rowL onP
  rw [List.map_map]
  refine List.map_congr_left (fun x hx => ?_)
  have hm := (mem_onD L x).2 hx
  have hl : (onD L).idxOf x < (onD L).length := List.idxOf_lt_length_iff.2 hm
  simp only [Function.comp_apply, Int.toNat_natCast]
  rw [List.getD_eq_getElem?_getD, List.getElem?_map, List.getElem?_eq_getElem hl]
  simp only [Option.map_some, Option.getD_some]
  congr 1
  exact List.getElem_idxOf hl
theorem tq_T {q : Qy} {R : List Ro} (hE : scE (tq q) R = 0) {T : List Int} {LL : List (List Cl)} (h : ScT (tq q) R T LL) : LL = if oneQ q R = true then [q.sh.map (totC q R)] else [] := by
  obtain ⟨h1, _⟩ := scE_zero hE
  rcases h with ⟨_, e1, M, hM, e2⟩ | ⟨h0, _⟩
  · have hp := hM.1
    rw [tq_lines h1] at hp
    rw [e2, show limN (tq q).lim M.length = M.length from rfl, List.take_length]
    split
    · rename_i ho
      rw [if_pos ho] at hp
      rw [List.perm_singleton.1 hp, tq_P h1]
      simp only [List.map_cons, List.map_nil, rowL_on, List.map_map]
      rfl
    · rename_i ho
      rw [if_neg ho] at hp
      rw [List.perm_nil.1 hp]; rfl
  · exact absurd hE h0
end Go.Proofs.YtbenciieenbmeaaGreatDoor
/- answer: cells of one type are told apart by their numbers or by their texts; totals of two parts (no program in it). -/
namespace Go.Proofs.YtbenciieenbmeaaGreatDoor
open Go Go.Shelf Go.ChangeShapes Go.WideShapes Go.ChangeAt Go.RowKit Go.Maps Go.Sort
set_option linter.unusedVariables false
set_option maxRecDepth 100000
set_option maxHeartbeats 4000000
/-- a cell is a text or has none -/
def Shp (c : Cl) : Prop := (c.ty = 2 → c.num = 0) ∧ (c.ty ≠ 2 → c.tx = ⟨#[]⟩)
theorem shp_num {c : Cl} (h1 : c.ty ≠ 2) (h2 : c.tx = ⟨#[]⟩) : Shp c := ⟨fun h => absurd h h1, fun _ => h2⟩
theorem shp_no : Shp .no := shp_num (by decide) rfl
theorem shp_fit (b : Bool) {t n : Int} (ht : t ≠ 2) : Shp (fit b ⟨t, n, ⟨#[]⟩⟩) := by
  cases b
  · exact shp_no
  · exact shp_num ht rfl
theorem shp_numC {t n : Int} (ht : t ≠ 2) : Shp (numC t n) := shp_fit _ ht
theorem shp_txt (s : ByteArray) : Shp (txt s) := ⟨fun _ => rfl, fun h => absurd rfl h⟩
theorem shp_tru (b : Bool) : Shp (tru b) := shp_num (by show (4 : Int) ≠ 2; decide) rfl
theorem shp_fw (f : Int) (r : Ro) : Shp (fwC f r) := by
  unfold fwC
  split; exact shp_numC (by decide)
  split; exact shp_numC (by decide)
  split; exact shp_numC (by decide)
  split; exact shp_txt _
  split; exact shp_txt _
  split; exact shp_txt _
  split; exact shp_txt _
  split; exact shp_txt _
  split
  · unfold amtC; exact shp_fit _ (by decide)
  · unfold dayC
    split; exact shp_fit _ (by decide)
    split; exact shp_fit _ (by decide)
    split; exact shp_fit _ (by decide)
    exact shp_fit _ (by decide)
theorem rec_no2 (op a b : Int) : recS op a b ≠ 2 := by
  unfold recS
  cases hf : (List.range 11).find? (fun k => rB k op a b) with
  | none => exact (by decide)
  | some k =>
    have hk : k < 11 := by
      have := List.mem_of_find?_eq_some hf
      simpa using this
    show (rc k).2.2.2 ≠ 2
    have : ∀ k, k < 11 → (rc k).2.2.2 ≠ 2 := by decide
    exact this k hk
theorem tx_fit (b : Bool) (t n : Int) : (fit b ⟨t, n, ⟨#[]⟩⟩).tx = ⟨#[]⟩ := by cases b <;> rfl
theorem tx_mov (n d : Int) : (movC n d).tx = ⟨#[]⟩ := tx_fit _ _ _
theorem tx_btw (op : Int) (l r : Cl) : (btwC op l r).tx = ⟨#[]⟩ := by
  unfold btwC
  split; rfl
  split
  · unfold sumC
    split; exact tx_mov _ _
    split; exact tx_mov _ _
    exact tx_fit _ _ _
  split
  · unfold difC
    split; exact tx_fit _ _ _
    split; exact tx_mov _ _
    exact tx_fit _ _ _
  split
  · unfold mulC; exact tx_fit _ _ _
  · rfl
theorem shp_vat {V : List Cl} (h : ∀ c ∈ V, Shp c) (i : Int) : Shp (vat V i) := by
  unfold vat
  rw [List.getD_eq_getElem?_getD]
  cases hg : V[i.toNat]? with
  | none => exact shp_no
  | some c => exact h c (List.mem_of_getElem? hg)
theorem shp_wr {x : Nd} {r : Ro} {V : List Cl} {T : List Int} (h : VTy V T) (hs : ∀ c ∈ V, Shp c) (hn : ntS x T ≠ 0) : Shp (wrC x r V) := by
  have hty := wr_ty (r := r) h hn
  unfold wrC at hty ⊢
  split
  · exact shp_fw _ _
  split
  · exact shp_numC (by decide)
  split
  · exact shp_txt _
  split
  · exact shp_num (by show (3 : Int) ≠ 2; decide) rfl
  split
  · exact shp_tru _
  rename_i c16 c17 c18 c19 c20
  rw [if_neg c16, if_neg c17, if_neg c18, if_neg c19, if_neg c20] at hty
  split
  · rename_i c3
    rw [if_pos c3] at hty
    have hv := shp_vat hs x.left
    unfold opp at hty ⊢
    split
    · exact hv
    split
    · exact shp_tru _
    · rename_i z0 z4
      have e2 : ntS x T = sgl x.op (tat T x.left) := by
        unfold ntS narS
        rw [if_neg c16, if_neg c17, if_neg c18, if_neg c19, if_neg c20, if_pos c3]
        rfl
      have hn' := hn
      rw [e2] at hn'
      have h2 := (vat_ty h x.left).resolve_right (sgl_nz hn')
      have h3 : (vat V x.left).ty = tat T x.left := h2.resolve_right z0
      refine shp_numC (fun e => ?_)
      rw [h3] at e
      rw [e] at hn'
      unfold sgl at hn'
      split at hn' <;> exact hn' rfl
  · rename_i c3
    rw [if_neg c3] at hty
    split
    · unfold cho; split
      · exact shp_vat hs _
      · exact shp_vat hs _
    split
    · unfold cho; split
      · exact shp_vat hs _
      · exact shp_vat hs _
    · rename_i c2 c1
      rw [if_neg c2, if_neg c1] at hty
      refine shp_num (fun e => ?_) (tx_btw _ _ _)
      have ht2 : (2 : Int) = ntS x T := by
        rcases hty with h5 | h5
        · rw [← e]; exact h5
        · rw [e] at h5; cases h5
      have e2 : ntS x T = if 1 ≤ x.op ∧ x.op ≤ 14 then prS x.op (tat T x.left) (tat T x.right) else 0 := by
        unfold ntS narS
        rw [if_neg c16, if_neg c17, if_neg c18, if_neg c19, if_neg c20, if_neg c3]
        split <;> rfl
      rw [e2] at ht2
      split at ht2
      · unfold prS at ht2
        have tn : ∀ b, (2 : Int) ≠ tif b 4 := fun b => by cases b <;> decide
        split at ht2; exact tn _ ht2
        split at ht2; exact tn _ ht2
        split at ht2; exact tn _ ht2
        split at ht2; exact tn _ ht2
        exact rec_no2 _ _ _ ht2.symm
      · cases ht2
theorem shp_all {L : List Nd} (hz : ∀ t ∈ tyL L, t ≠ 0) (r : Ro) : ∀ c ∈ vlL L r, Shp c := by
  revert hz
  refine onD_ind (p := fun L => (∀ t ∈ tyL L, t ≠ 0) → ∀ c ∈ vlL L r, Shp c) (fun _ c hc => by cases hc) (fun L x ih => ?_) L
  intro hz c hc
  have hz1 : ∀ t ∈ tyL L, t ≠ 0 := fun t ht => hz t (by rw [tyL_snoc]; exact List.mem_append_left _ ht)
  rw [vlL_snoc] at hc
  rcases List.mem_append.1 hc with h1 | h1
  · exact ih hz1 c h1
  · rw [List.mem_singleton.1 h1]
    exact shp_wr (val_ty hz1 r) (ih hz1) (hz _ (by rw [tyL_snoc]; simp))
/-- of two cells of one type the numbers are alike, or the texts -/
theorem shp_two {c d : Cl} (hc : Shp c) (hd : Shp d) (h : c.ty = d.ty) : c.num = d.num ∨ c.tx = d.tx := by
  by_cases h2 : c.ty = 2
  · exact .inl (by rw [hc.1 h2, hd.1 (by rw [← h]; exact h2)])
  · exact .inr (by rw [hc.2 h2, hd.2 (by rw [← h]; exact h2)])
theorem tkE_assoc (k : Int) {e m c : Cl} (he : e.ty ≠ 0) (hm : m.ty ≠ 0) : tkE k (tkE k e m) c = tkE k e (tkE k m c) := by
  unfold tkE
  by_cases k3 : k = 3
  · simp only [if_pos k3, he, hm, false_or]
    by_cases h1 : cmpC m e < 0
    · simp only [if_pos h1, hm, false_or]
      by_cases h2 : cmpC c m < 0
      · simp only [if_pos h2]; rw [if_pos (cmpC_trans h2 h1)]
      · simp only [if_neg h2]; rw [if_pos h1]
    · simp only [if_neg h1, he, false_or]
      by_cases h2 : cmpC c m < 0
      · simp only [if_pos h2]
      · simp only [if_neg h2]; rw [if_neg h1, if_neg (cmp_le h1 h2)]
  · simp only [if_neg k3]
    by_cases k4 : k = 4
    · simp only [if_pos k4, he, hm, false_or]
      have a1 := cmpC_anti m e
      have a2 := cmpC_anti c m
      have a3 := cmpC_anti c e
      by_cases h1 : cmpC m e > 0
      · simp only [if_pos h1, hm, false_or]
        by_cases h2 : cmpC c m > 0
        · simp only [if_pos h2]; rw [if_pos (by have := cmpC_trans (x := e) (y := m) (z := c) (by omega) (by omega); omega)]
        · simp only [if_neg h2]; rw [if_pos h1]
      · simp only [if_neg h1, he, false_or]
        by_cases h2 : cmpC c m > 0
        · simp only [if_pos h2]
        · simp only [if_neg h2]
          rw [if_neg h1, if_neg (fun h => by have := cmp_le (a := c) (b := m) (c := e) (by omega) (by omega); omega)]
    · simp only [if_neg k4]
theorem tkE_typ (k : Int) (hk : k = 3 ∨ k = 4) {e c : Cl} {t : Int} (he : e.ty = t ∨ e.ty = 0) (hc : c.ty = t) : (tkE k e c).ty = t := by
  unfold tkE
  rcases hk with rfl | rfl
  · rw [if_pos rfl]
    split
    · exact hc
    · rename_i h
      exact he.resolve_right (fun h0 => h (.inl h0))
  · rw [if_neg (by decide), if_pos rfl]
    split
    · exact hc
    · rename_i h
      exact he.resolve_right (fun h0 => h (.inl h0))
theorem fold_ty (k : Int) (hk : k = 3 ∨ k = 4) {t : Int} : ∀ (cs : List Cl) (e : Cl), (∀ c ∈ cs, c.ty = t) → e.ty = t → (cs.foldl (tkE k) e).ty = t
  | [], _, _, he => he
  | c :: cs, e, h, he => fold_ty k hk cs _ (fun d hd => h d (by simp [hd])) (tkE_typ k hk (.inl he) (h c (by simp)))
theorem fold_two (k : Int) (hk : k = 3 ∨ k = 4) {t : Int} (ht : t ≠ 0) : ∀ (cs : List Cl) (e m : Cl), (∀ c ∈ cs, c.ty = t) → e.ty = t → m.ty = t → cs.foldl (tkE k) (tkE k e m) = tkE k e (cs.foldl (tkE k) m)
  | [], _, _, _, _, _ => rfl
  | c :: cs, e, m, h, he, hm => by
    simp only [List.foldl_cons]
    rw [tkE_assoc k (by rw [he]; exact ht) (by rw [hm]; exact ht)]
    exact fold_two k hk ht cs e (tkE k m c) (fun d hd => h d (by simp [hd])) he (tkE_typ k hk (.inl hm) (h c (by simp)))
theorem tkE_no (k : Int) (hk : k = 3 ∨ k = 4) (c : Cl) : tkE k .no c = c := by
  rcases hk with rfl | rfl
  · unfold tkE; rw [if_pos rfl, if_pos (.inl rfl)]
  · unfold tkE; rw [if_neg (by decide), if_pos rfl, if_pos (.inl rfl)]
theorem fold_parts (k : Int) (hk : k = 3 ∨ k = 4) {t : Int} (ht : t ≠ 0) {us bs : List Cl} (ha : ∀ c ∈ us, c.ty = t) (hb : ∀ c ∈ bs, c.ty = t) (na : us ≠ []) (nb : bs ≠ []) :
    (us ++ bs).foldl (tkE k) .no = tkE k (us.foldl (tkE k) .no) (bs.foldl (tkE k) .no) ∧ (us.foldl (tkE k) .no).ty = t ∧ (bs.foldl (tkE k) .no).ty = t := by
  have hA : (us.foldl (tkE k) .no).ty = t := by
    cases us with
    | nil => exact absurd rfl na
    | cons a us => rw [List.foldl_cons, tkE_no k hk]; exact fold_ty k hk us a (fun d hd => ha d (by simp [hd])) (ha a (by simp))
  cases bs with
  | nil => exact absurd rfl nb
  | cons b bs =>
    have hB : (bs.foldl (tkE k) b).ty = t := fold_ty k hk bs b (fun d hd => hb d (by simp [hd])) (hb b (by simp))
    rw [List.foldl_append, List.foldl_cons, List.foldl_cons, tkE_no k hk]
    exact ⟨fold_two k hk ht bs _ b (fun d hd => hb d (by simp [hd])) hA (hb b (by simp)), hA, hB⟩
/-- a total's two halves, each by itself -/
theorem tal_split (q : Qy) (F : List Ro) (a : Ag) : talR q F a = ((F.map (fun r => cAt (vlL q.nodes r) a)).foldl (tkZ a.kd) 0, (F.map (fun r => cAt (vlL q.nodes r) a)).foldl (tkE a.kd) .no) := by
  unfold talR
  suffices h : ∀ (p : Int × Cl), F.foldl (fun p r => (tkZ a.kd p.1 (cAt (vlL q.nodes r) a), tkE a.kd p.2 (cAt (vlL q.nodes r) a))) p = ((F.map (fun r => cAt (vlL q.nodes r) a)).foldl (tkZ a.kd) p.1, (F.map (fun r => cAt (vlL q.nodes r) a)).foldl (tkE a.kd) p.2) from h (0, .no)
  induction F with
  | nil => intro p; rfl
  | cons r F ih => intro p; simp only [List.foldl_cons, List.map_cons]; rw [ih]
theorem z_from (k : Int) (cs : List Cl) : ∀ z, cs.foldl (tkZ k) z = z + cs.foldl (tkZ k) 0 := by
  induction cs with
  | nil => intro z; simp
  | cons c cs ih =>
    intro z
    simp only [List.foldl_cons]
    rw [ih (tkZ k z c), ih (tkZ k 0 c)]
    unfold tkZ
    split <;> omega
theorem z_parts (q : Qy) (F G : List Ro) (a : Ag) : (talR q (F ++ G) a).1 = (talR q F a).1 + (talR q G a).1 := by
  rw [tal_split, tal_split, tal_split, List.map_append, List.foldl_append]
  simp only
  rw [z_from]
/-- what tells that a query of totals is answered -/
theorem tq_E (q : Qy) (R : List Ro) : scE (tq q) R = 0 ↔ okQ (tq q) = true ∧ (∀ r ∈ R, (whC q r).ty ≠ 0 ∧ (cntB q r = true → ∀ x ∈ q.sh, (cAt (vlL q.nodes r) (shT q x)).ty ≠ 0)) ∧ (oneQ q R = true → ∀ x ∈ q.sh, (totC q R x).ty ≠ 0) := by
  have key : okQ (tq q) = true → (overB (tq q) (scF (tq q)) (scS (tq q)) R = false ↔ (∀ r ∈ R, (whC q r).ty ≠ 0 ∧ (cntB q r = true → ∀ x ∈ q.sh, (cAt (vlL q.nodes r) (shT q x)).ty ≠ 0)) ∧ (oneQ q R = true → ∀ x ∈ q.sh, (totC q R x).ty ≠ 0)) := fun hok => by
    unfold overB
    rw [Bool.or_eq_false_iff, tq_F]
    have hmem : ∀ y, y ∈ scS (tq q) ↔ ∃ x ∈ q.sh, shT q x = y := fun y => by rw [tq_S hok, mem_onD, List.mem_map]
    have e1 : rowsB (tq q) [] (scS (tq q)) R = false ↔ ∀ r ∈ R, (whC q r).ty ≠ 0 ∧ (cntB q r = true → ∀ x ∈ q.sh, (cAt (vlL q.nodes r) (shT q x)).ty ≠ 0) := by
      unfold rowsB
      rw [List.any_eq_false]
      refine forall_congr' fun r => forall_congr' fun hr => ?_
      have hb : badK [] r = false := rfl
      have ht : badT (vlL (tq q).nodes r) (scS (tq q)) = false ↔ ∀ x ∈ q.sh, (cAt (vlL q.nodes r) (shT q x)).ty ≠ 0 := by
        unfold badT
        rw [List.any_eq_false]
        constructor
        · intro h x hx e
          have e' : (cAt (vlL (tq q).nodes r) (shT q x)).ty = 0 := e
          exact h _ ((hmem _).2 ⟨x, hx, rfl⟩) (by simpa using e')
        · intro h y hy e
          obtain ⟨x, hx, rfl⟩ := (hmem y).1 hy
          exact h x hx (show (cAt (vlL (tq q).nodes r) (shT q x)).ty = 0 by simpa using e)
      have hw : whC (tq q) r = whC q r := rfl
      unfold stE cntB
      rw [hw, hb]
      by_cases h0 : (whC q r).ty = 0
      · simp [h0]
      · by_cases h1 : (whC q r).num = 1
        · cases h2 : badT (vlL (tq q).nodes r) (scS (tq q)) with
          | false =>
            have h3 := ht.1 h2
            simp [h0, h1]
            exact fun a b hab => h3 (a, b) hab
          | true =>
            have : ¬ ∀ x ∈ q.sh, (cAt (vlL q.nodes r) (shT q x)).ty ≠ 0 := fun h => by rw [ht.2 h] at h2; cases h2
            simp only [h0, h1, if_false, if_true, not_true, beq_self_eq_true, ne_eq, not_false_eq_true, true_and, forall_const]
            constructor
            · intro h; exact absurd rfl h
            · intro h; exact absurd h this
        · simp [h0, h1]
    have e2 : linesB (tq q) [] (scS (tq q)) R = false ↔ (oneQ q R = true → ∀ x ∈ q.sh, (totC q R x).ty ≠ 0) := by
      unfold linesB
      rw [tq_ks hok]
      cases ho : oneQ q R with
      | false => simp
      | true =>
        simp only [if_true, List.any_cons, List.any_nil, Bool.or_false, true_implies]
        unfold lnB
        rw [List.any_eq_false]
        constructor
        · intro h x hx e
          refine h _ ((hmem _).2 ⟨x, hx, rfl⟩) ?_
          rw [φ_tot]
          simpa [totC] using e
        · intro h y hy e
          obtain ⟨x, hx, rfl⟩ := (hmem y).1 hy
          refine h x hx ?_
          rw [φ_tot] at e
          simpa [totC] using e
    rw [e1, e2]
  constructor
  · intro h
    obtain ⟨h1, h2⟩ := scE_zero h
    exact ⟨h1, (key h1).1 h2⟩
  · rintro ⟨h1, h2⟩
    unfold scE
    rw [if_pos h1, (key h1).2 h2]; rfl
/-- so small that two of them fit together -/
def Sml (n : Int) : Prop := -1152921504606846976 ≤ n ∧ n ≤ 1152921504606846976
/-- what a total of all rows is, by those of two parts -/
def PartOk (k : Int) (a b c : Cl) : Prop := (k = 1 ∨ k = 2 → a.num + b.num = c.num ∧ I64 c.num) ∧ (k = 3 ∨ k = 4 → c = tkE k a b ∧ a.ty = b.ty ∧ (a.num = b.num ∨ a.tx = b.tx))
theorem tlC_sum {z : Int} {e : Cl} {k t : Int} (hk : k = 1 ∨ k = 2) (ht : t ≠ 0) : ((tlC z e k t).ty ≠ 0 ↔ (whB z = true ∧ amt (whN z) = true)) ∧ ((tlC z e k t).ty ≠ 0 → (tlC z e k t).num = whN z) := by
  have hE : isE k = false := by rcases hk with rfl | rfl <;> rfl
  have e1 : tlC z e k t = fit (whB z) (numC t (whN z)) := by unfold tlC; rw [hE]; rfl
  rw [e1]
  unfold numC
  cases whB z <;> cases amt (whN z) <;> simp [fit, Cl.no, ht]
theorem col_nz {q : Qy} (hok : okQ (tq q) = true) {x : Int × Int} (hx : x ∈ q.sh) : (x.1 = 1 ∨ x.1 = 2 ∨ x.1 = 3 ∨ x.1 = 4) ∧ colT (tyL q.nodes) x ≠ 0 := by
  have hs := ((ok_iff _).1 hok).p5 x hx
  have hs' : shwS x (tyL q.nodes) = true := hs
  unfold shwS at hs'
  unfold colT
  by_cases h1 : x.1 = 1
  · rw [if_pos h1]; exact ⟨.inl h1, by decide⟩
  · rw [if_neg h1] at hs' ⊢
    by_cases h2 : x.1 = 2
    · rw [if_pos h2] at hs'
      refine ⟨.inr (.inl h2), fun e => ?_⟩
      rw [e] at hs'; exact absurd hs' (by decide)
    · rw [if_neg h2] at hs'
      by_cases h3 : x.1 = 3 ∨ x.1 = 4
      · rw [if_pos h3] at hs'
        refine ⟨.inr (.inr h3), fun e => ?_⟩
        rw [e] at hs'; exact absurd hs' (by decide)
      · rw [if_neg h3] at hs'; cases hs'
theorem cell_shp {q : Qy} (hok : okQ (tq q) = true) {x : Int × Int} (hx : x ∈ q.sh) (r : Ro) : Shp (cAt (vlL q.nodes r) (shT q x)) ∧ ((cAt (vlL q.nodes r) (shT q x)).ty ≠ 0 → (cAt (vlL q.nodes r) (shT q x)).ty = colT (tyL q.nodes) x) := by
  have hp := (ok_iff _).1 hok
  have hz : ∀ t ∈ tyL q.nodes, t ≠ 0 := hp.p1
  unfold cAt shT
  simp only
  by_cases h1 : x.1 = 1
  · rw [if_pos h1]
    refine ⟨shp_num (by show (1 : Int) ≠ 2; decide) rfl, fun _ => ?_⟩
    unfold colT; rw [if_pos h1]
  · rw [if_neg h1, if_neg h1]
    refine ⟨shp_vat (shp_all hz r) _, fun h0 => ?_⟩
    have := (col_nz hok hx).2
    unfold colT at this ⊢
    rw [if_neg h1] at this ⊢
    exact ((vat_ty (val_ty hz r) x.2).resolve_right this).resolve_right h0
theorem z_bound (k : Int) : ∀ (cs : List Cl), (∀ c ∈ cs, I64 c.num) → -(9223372036854775808 * (cs.length : Int)) ≤ cs.foldl (tkZ k) 0 ∧ cs.foldl (tkZ k) 0 ≤ 9223372036854775808 * (cs.length : Int)
  | [], _ => by simp
  | c :: cs, h => by
    have ih := z_bound k cs (fun d hd => h d (by simp [hd]))
    have hc := h c (by simp)
    unfold I64 at hc
    have hz : tkZ k 0 c = c.num ∨ tkZ k 0 c = 0 := by unfold tkZ; split <;> simp
    rw [List.foldl_cons, z_from, List.length_cons]
    rcases hz with hz | hz <;> rw [hz] <;> constructor <;> omega
theorem shp_tk (k : Int) {e c : Cl} (he : Shp e) (hc : Shp c) : Shp (tkE k e c) := by
  unfold tkE
  split
  · split <;> assumption
  · split
    · split <;> assumption
    · exact he
theorem shp_fold (k : Int) : ∀ (cs : List Cl) (e : Cl), (∀ c ∈ cs, Shp c) → Shp e → Shp (cs.foldl (tkE k) e)
  | [], _, _, he => he
  | c :: cs, e, h, he => shp_fold k cs _ (fun d hd => h d (by simp [hd])) (shp_tk k he (h c (by simp)))
theorem cat_in {L : List Nd} {r : Ro} (hr : RoOk r) (hL : ∀ x ∈ L, NdOk x) (a : Ag) : I64 (cAt (vlL L r) a).num := by
  unfold cAt
  split
  · exact ⟨by show (_ : Int) ≤ 1; decide, by show (1 : Int) ≤ _; decide⟩
  · have h := vl_ok hr hL L.length (Nat.le_refl _)
    rw [List.take_length] at h
    exact (vat_ok h _).1
/-- the cells of one of Show over the rows that count -/
noncomputable def csQ (q : Qy) (R : List Ro) (x : Int × Int) : List Cl := (R.filter (cntB q)).map (fun r => cAt (vlL q.nodes r) (shT q x))
theorem csQ_app (q : Qy) (R S : List Ro) (x : Int × Int) : csQ q (R ++ S) x = csQ q R x ++ csQ q S x := by unfold csQ; rw [List.filter_append, List.map_append]
theorem tot_is (q : Qy) (R : List Ro) (x : Int × Int) : totC q R x = tlC ((csQ q R x).foldl (tkZ x.1) 0) ((csQ q R x).foldl (tkE x.1) .no) x.1 (colT (tyL q.nodes) x) := by
  unfold totC
  rw [tal_split]
  rfl
theorem tot_end {q : Qy} {R : List Ro} {x : Int × Int} (hk : x.1 = 3 ∨ x.1 = 4) : totC q R x = (csQ q R x).foldl (tkE x.1) .no := by
  rw [tot_is]
  unfold tlC
  rw [if_pos (by rcases hk with h | h <;> (rw [h]; rfl))]
theorem csQ_len (q : Qy) (R : List Ro) (x : Int × Int) : (csQ q R x).length ≤ R.length := by unfold csQ; rw [List.length_map]; exact List.length_filter_le _ _
theorem end_of {q : Qy} {x : Int × Int} (hx : x ∈ q.sh) (hk : x.1 = 3 ∨ x.1 = 4) : endQ q = true := by
  unfold endQ endsB
  rw [List.any_eq_true]
  refine ⟨shT q x, List.mem_map.2 ⟨x, hx, rfl⟩, ?_⟩
  show isE x.1 = true
  rcases hk with h | h <;> (rw [h]; rfl)
theorem one_ne {q : Qy} {R : List Ro} (he : endQ q = true) (ho : oneQ q R = true) (x : Int × Int) : csQ q R x ≠ [] := fun h => by
  unfold oneQ at ho
  unfold csQ at h
  rw [List.map_eq_nil_iff] at h
  rw [he, h] at ho
  cases ho
theorem parts_law {q : Qy} {R S : List Ro} (hl : R.length + S.length < 4294967296) (hro : ∀ r ∈ R ++ S, RoOk r) (hnd : ∀ x ∈ q.nodes, NdOk x) (h1 : scE (tq q) R = 0) (o1 : oneQ q R = true) (h2 : scE (tq q) S = 0) (o2 : oneQ q S = true) :
    oneQ q (R ++ S) = true ∧ (scE (tq q) (R ++ S) ≠ 0 → ∃ x ∈ q.sh, ¬ Sml (totC q R x).num ∨ ¬ Sml (totC q S x).num) ∧ (scE (tq q) (R ++ S) = 0 → ∀ x ∈ q.sh, PartOk x.1 (totC q R x) (totC q S x) (totC q (R ++ S) x)) := by
  obtain ⟨k0, k1, k2⟩ := (tq_E q R).1 h1
  obtain ⟨_, l1, l2⟩ := (tq_E q S).1 h2
  have hone : oneQ q (R ++ S) = true := by
    unfold oneQ at o1 ⊢
    rw [List.filter_append]
    cases he : endQ q with
    | false => rfl
    | true =>
      rw [he] at o1
      cases hf : R.filter (cntB q) with
      | nil => rw [hf] at o1; cases o1
      | cons r L => rfl
  have hrows : ∀ r ∈ R ++ S, (whC q r).ty ≠ 0 ∧ (cntB q r = true → ∀ x ∈ q.sh, (cAt (vlL q.nodes r) (shT q x)).ty ≠ 0) := fun r hr => by
    rcases List.mem_append.1 hr with h | h
    · exact k1 r h
    · exact l1 r h
  have hcs : ∀ (U : List Ro), (∀ r ∈ U, r ∈ R ++ S) → ∀ x ∈ q.sh, ∀ c ∈ csQ q U x, I64 c.num ∧ Shp c ∧ c.ty = colT (tyL q.nodes) x := fun U hU x hx c hc => by
    unfold csQ at hc
    obtain ⟨r, hr, rfl⟩ := List.mem_map.1 hc
    obtain ⟨hr1, hr2⟩ := List.mem_filter.1 hr
    have hty := (hrows r (hU r hr1)).2 hr2 x hx
    have hsh := cell_shp k0 hx r
    exact ⟨cat_in (hro r (hU r hr1)) hnd _, hsh.1, hsh.2 hty⟩
  have hR := hcs R (fun r hr => List.mem_append_left _ hr)
  have hS := hcs S (fun r hr => List.mem_append_right _ hr)
  have num : ∀ (U : List Ro), (∀ r ∈ U, r ∈ R ++ S) → U.length < 4294967296 → ∀ x ∈ q.sh, (x.1 = 1 ∨ x.1 = 2) → (((totC q U x).ty ≠ 0 ↔ I64 ((csQ q U x).foldl (tkZ x.1) 0) ∧ (csQ q U x).foldl (tkZ x.1) 0 ≠ -9223372036854775808) ∧ ((totC q U x).ty ≠ 0 → (totC q U x).num = (csQ q U x).foldl (tkZ x.1) 0)) := fun U hU hUl x hx hk => by
    have hb := z_bound x.1 (csQ q U x) (fun c hc => (hcs U hU x hx c hc).1)
    have hcl := csQ_len q U x
    have hW : W128 ((csQ q U x).foldl (tkZ x.1) 0) := by
      unfold W128
      constructor <;> omega
    have hst := tlC_sum (z := (csQ q U x).foldl (tkZ x.1) 0) (e := (csQ q U x).foldl (tkE x.1) .no) hk (col_nz k0 hx).2
    rw [← tot_is] at hst
    have hI := whB_is hW
    refine ⟨?_, fun h => ?_⟩
    · rw [hst.1, hI]
      constructor
      · rintro ⟨g1, g2⟩
        rw [whN_is g1] at g2
        refine ⟨g1, fun e => ?_⟩
        rw [e] at g2
        cases g2
      · rintro ⟨g1, g2⟩
        refine ⟨g1, ?_⟩
        rw [whN_is g1]
        unfold amt
        simpa using g2
    · rw [hst.2 h, whN_is (hI.1 (hst.1.1 h).1)]
  have fin : ∀ x ∈ q.sh, (x.1 = 3 ∨ x.1 = 4) → totC q (R ++ S) x = tkE x.1 (totC q R x) (totC q S x) ∧ (totC q R x).ty = colT (tyL q.nodes) x ∧ (totC q S x).ty = colT (tyL q.nodes) x := fun x hx hk => by
    have he := end_of hx hk
    rw [tot_end hk, tot_end hk, tot_end hk, csQ_app]
    exact fold_parts x.1 hk (col_nz k0 hx).2 (fun c hc => (hR x hx c hc).2.2) (fun c hc => (hS x hx c hc).2.2) (one_ne he o1 x) (one_ne he o2 x)
  have zz : ∀ x, (csQ q (R ++ S) x).foldl (tkZ x.1) 0 = (csQ q R x).foldl (tkZ x.1) 0 + (csQ q S x).foldl (tkZ x.1) 0 := fun x => by rw [csQ_app, List.foldl_append, z_from]
  have mR : ∀ r ∈ R, r ∈ R ++ S := fun r hr => List.mem_append_left _ hr
  have mS : ∀ r ∈ S, r ∈ R ++ S := fun r hr => List.mem_append_right _ hr
  have lA : (R ++ S).length < 4294967296 := by rw [List.length_append]; omega
  refine ⟨hone, fun hne => ?_, fun h0 x hx => ⟨fun hk => ?_, fun hk => ?_⟩⟩
  · have hx : ∃ x ∈ q.sh, (totC q (R ++ S) x).ty = 0 := by
      refine Classical.byContradiction fun hno => hne ((tq_E q (R ++ S)).2 ⟨k0, hrows, fun _ x hx e => hno ⟨x, hx, e⟩⟩)
    obtain ⟨x, hx, e⟩ := hx
    refine ⟨x, hx, ?_⟩
    have hz := (col_nz k0 hx).2
    rcases (col_nz k0 hx).1 with hk | hk | hk
    case inr.inr =>
      obtain ⟨f1, f2, f3⟩ := fin x hx hk
      have := tkE_typ x.1 hk (.inl f2) f3
      rw [← f1, e] at this
      exact absurd this.symm hz
    all_goals
      have hk' : x.1 = 1 ∨ x.1 = 2 := by omega
      have a1 := num R mR (by omega) x hx hk'
      have a2 := num S mS (by omega) x hx hk'
      have a3 := num (R ++ S) (fun r h => h) lA x hx hk'
      have t1 := k2 o1 x hx
      have t2 := l2 o2 x hx
      rw [a1.2 t1, a2.2 t2]
      refine Classical.byContradiction fun hno => ?_
      have s1 : Sml ((csQ q R x).foldl (tkZ x.1) 0) := Classical.byContradiction fun h => hno (.inl h)
      have s2 : Sml ((csQ q S x).foldl (tkZ x.1) 0) := Classical.byContradiction fun h => hno (.inr h)
      refine (a3.1.2 ?_) e
      rw [zz]
      unfold Sml at s1 s2
      unfold I64
      refine ⟨⟨by omega, by omega⟩, by omega⟩
  · have hall := (((tq_E q (R ++ S)).1 h0).2.2) hone
    have a1 := num R mR (by omega) x hx hk
    have a2 := num S mS (by omega) x hx hk
    have a3 := num (R ++ S) (fun r h => h) lA x hx hk
    rw [a1.2 (k2 o1 x hx), a2.2 (l2 o2 x hx), a3.2 (hall x hx), zz]
    refine ⟨rfl, ?_⟩
    rw [← zz]
    exact (a3.1.1 (hall x hx)).1
  · obtain ⟨f1, f2, f3⟩ := fin x hx hk
    refine ⟨f1, by rw [f2, f3], ?_⟩
    refine shp_two ?_ ?_ (by rw [f2, f3])
    · rw [tot_end hk]; exact shp_fold x.1 _ _ (fun c hc => (hR x hx c hc).2.1) shp_no
    · rw [tot_end hk]; exact shp_fold x.1 _ _ (fun c hc => (hS x hx c hc).2.1) shp_no
end Go.Proofs.YtbenciieenbmeaaGreatDoor
/- the law's totals (16). -/
namespace Go.Proofs.YtbenciieenbmeaaGreatDoor
open Go Go.Shelf Go.ChangeShapes Go.WideShapes Go.ChangeAt Go.RowKit Go.Maps Go.Sort
set_option linter.unusedVariables false
set_option maxRecDepth 100000
set_option maxHeartbeats 8000000
noncomputable def tqB (q : Qy) (R : List Ro) : Bool := decide (scE (tq q) R = 0) && oneQ q R
/-- what totals answers -/
def TotOut (W : World) (q : Qy) (R : List Ro) (nS : Nat) (e : Ending) (w' : World) : Prop :=
  ∃ p n c, e = .returned (.tuple #[.slice p n c, .bool (tqB q R)]) ∧ Below W.heap.size W w' ∧ (tqB q R = true → n = nS ∧ Lies kC w' p (q.sh.map (totC q R)))
section
attribute [local go_sem ↓] ld32_is ld34_is
theorem totals_any {W : World} {q : Qy} {a : Qa} {pR : Option Addr} {cR : Nat} {R : List Ro} (h : ScIq W q a pR R) (hc : QCp a) (hcR : pR = none → cR = 0) :
    Calls Tryz.prog 16 #[qV q a, .slice pR R.length cR] W (TotOut W q R q.sh.length) := by
  obtain ⟨A, hA⟩ : ∃ A, A = W.alloc (.cells (qC q a).toArray 27) := ⟨_, rfl⟩
  have hBA : Below W.heap.size W A := by rw [hA]; exact Below.a1 W _
  have b27 : Bk A W.heap.size 27 (qC q a) := by show A.heap[_]? = _; rw [hA]; exact heap_new _ _
  have l27 : (ld32 (.pointer (some ⟨W.heap.size, 0, none⟩))).run Tryz.prog A = .ok (.agg #[.slice a.pN q.nodes.length a.cN, .int .i64 q.wh, .slice a.pB q.by'.length a.cB, .slice a.pS q.sh.length a.cS, .slice a.pO q.ords.length a.cO, .int .i64 q.lim]) A := run_ld32 (fun j u hu => by rw [b27.cell, Nat.zero_add]; exact hu)
  obtain ⟨nR, hnR⟩ : ∃ n, n = R.length := ⟨_, rfl⟩
  obtain ⟨nN, hnN⟩ : ∃ n, n = q.nodes.length := ⟨_, rfl⟩
  obtain ⟨nS, hnS⟩ : ∃ n, n = q.sh.length := ⟨_, rfl⟩
  obtain ⟨E, hE⟩ : ∃ E, E = scE (tq q) R := ⟨_, rfl⟩
  have D13 : Hid (Calls Tryz.prog 13 #[.agg #[.slice a.pN nN a.cN, .int .i64 q.wh, .slice a.pB q.by'.length a.cB, .slice a.pS nS a.cS, .slice a.pO q.ords.length a.cO, .int .i64 q.lim]] A fun e w' => ∃ a', e = .returned (.agg #[.slice a'.pN nN a'.cN, .int .i64 q.wh, .slice a'.pB q.by'.length a'.cB, .slice a'.pS nS a'.cS, .slice a'.pO q.ords.length a'.cO, .int .i64 q.lim]) ∧ Hid (Twn A w' q a')) := by rw [hnN, hnS]; exact copied_any (h.qi.below hBA) hc
  have NX : Hid (∀ w1 a', Twn A w1 q a' → ∀ X, X = w1.alloc (.cells #[.slice a'.pN nN a'.cN, .int .i64 q.wh, .slice none 0 0, .slice a'.pS nS a'.cS, .slice none 0 0, .int .i64 (-1)] 27) → (ld32 (.pointer (some ⟨w1.heap.size, 0, none⟩))).run Tryz.prog X = .ok (.agg #[.slice a'.pN nN a'.cN, .int .i64 q.wh, .slice none 0 0, .slice a'.pS nS a'.cS, .slice none 0 0, .int .i64 (-1)]) X ∧ (Calls Tryz.prog 10 #[.agg #[.slice a'.pN nN a'.cN, .int .i64 q.wh, .slice none 0 0, .slice a'.pS nS a'.cS, .slice none 0 0, .int .i64 (-1)], .slice pR nR cR] X fun e w2 => ∃ px nx cx py ny cy T LL, e = .returned (.tuple #[.agg #[.slice px nx cx, .slice py ny cy], .int .i64 E]) ∧ Below W.heap.size W w2 ∧ Hid (TblOut X.heap.size w2 (.agg #[.slice px nx cx, .slice py ny cy]) T LL ∧ ScT (tq q) R T LL))) := fun w1 a' ht X hX => by
    rw [hnN, hnS] at hX ⊢
    have hb1 : Below W.heap.size W w1 := hBA.trans (ht.n.bel.mono hBA.size)
    have hbX : Below w1.heap.size w1 X := by rw [hX]; exact Below.a1 w1 _
    have hbWX : Below W.heap.size W X := hb1.trans (hbX.mono hb1.size)
    have bq : Bk X w1.heap.size 27 (qC (tq q) ⟨a'.pN, a'.cN, none, 0, a'.pS, a'.cS, none, 0⟩) := by
      show X.heap[_]? = _
      rw [hX]
      exact heap_new _ _
    have hS : ScIq X (tq q) ⟨a'.pN, a'.cN, none, 0, a'.pS, a'.cS, none, 0⟩ pR R := {
      fl := h.fl.below hbWX, mon := h.mon.below hbWX, rc := h.rc.below hbWX, mx := h.mx.below hbWX (by have := h.six; omega), six := by have := h.six; have := hbWX.size; omega
      qi := ⟨(ht.n.lies kN_ok).below hbX, ⟨fun _ => rfl, fun k hk => by cases hk⟩, (ht.s.lies kG_ok).below hbX, ⟨fun _ => rfl, fun k hk => by cases hk⟩, h.qi.nn, by show 0 ≤ _; omega, h.qi.ns, by show 0 ≤ _; omega⟩
      nn := h.nn, nb := by show 0 ≤ _; omega, ns := h.ns, no := by show 0 ≤ _; omega
      nd := h.nd
      sI := h.sI
      lI := ⟨by show (_ : Int) ≤ -1; decide, by show (-1 : Int) ≤ _; decide⟩
      rl := h.rl.below hbWX, rn := h.rn, ro := h.ro }
    have hQ : QCp ⟨a'.pN, a'.cN, none, 0, a'.pS, a'.cS, none, 0⟩ := ⟨ht.qcp.n, fun _ => rfl, ht.qcp.s, fun _ => rfl⟩
    refine ⟨run_ld32 (q := tq q) (a := ⟨a'.pN, a'.cN, none, 0, a'.pS, a'.cS, none, 0⟩) (fun j u hu => by rw [bq.cell, Nat.zero_add]; exact hu), ?_⟩
    have D := lscan_any (cR := cR) hS hQ hcR
    rw [← hnR] at D
    refine Calls.mono (show Calls Tryz.prog 10 _ X _ from D) fun e w2 ho => ?_
    obtain ⟨px, nx, cx, py, ny, cy, T, LL, e1, e2, e3⟩ := ho.tab
    exact ⟨px, nx, cx, py, ny, cy, T, LL, by rw [hE]; exact e1, hbWX.trans (e2.mono hbWX.size), e3⟩
  have HA : Hid (A = (W.alloc (.cells #[.slice a.pN nN a.cN, .int .i64 q.wh, .slice a.pB q.by'.length a.cB, .slice a.pS nS a.cS, .slice a.pO q.ords.length a.cO, .int .i64 q.lim] 27))) := by rw [hnN, hnS]; exact hA
  have HLN : Hid (q.sh.length ≤ 1048576 ∧ R.length ≤ 2097152) := ⟨h.ns, h.rn⟩
  rw [← hnR]
  show Calls Tryz.prog 16 #[.agg #[.slice a.pN q.nodes.length a.cN, .int .i64 q.wh, .slice a.pB q.by'.length a.cB, .slice a.pS q.sh.length a.cS, .slice a.pO q.ords.length a.cO, .int .i64 q.lim], .slice pR nR cR] W _
  rw [← hnN, ← hnS]
  rw [← hnN, ← hnS] at l27
  have HE := hide hE
  have HNS := hide hnS
  clear h hc hcR hA hBA b27 hnR hE hnN hnS
  go_enter Tryz.func16, Tryz.ntmps16
  go_upto_region 1 with fail
  rw [← unhide HA]
  go_wp2_with fail
  refine (unhide D13).mono ?_
  rintro e w1 ⟨a', rfl, ht⟩
  obtain ⟨X, hX⟩ : ∃ X, X = w1.alloc (.cells #[.slice a'.pN nN a'.cN, .int .i64 q.wh, .slice none 0 0, .slice a'.pS nS a'.cS, .slice none 0 0, .int .i64 (-1)] 27) := ⟨_, rfl⟩
  obtain ⟨lX, DX⟩ := unhide NX w1 a' (unhide ht) X hX
  have HDX := hide DX
  have HX := hide hX
  clear D13 NX ht DX hX l27
  go_upto_region 5 with fail
  rw [← unhide HX]
  clear HX
  go_wp2_with fail
  refine (unhide HDX).mono ?_
  rintro e w2 ⟨px, nx, cx, py, ny, cy, T, LL, rfl, hb2, ht⟩
  obtain ⟨Z, hZ⟩ : ∃ Z, Z = w2.alloc (.cells #[.slice px nx cx, .slice py ny cy] 34) := ⟨_, rfl⟩
  have hBZ : Below w2.heap.size w2 Z := by rw [hZ]; exact Below.a1 w2 _
  have bz : Bk Z w2.heap.size 34 [.slice px nx cx, .slice py ny cy] := by show Z.heap[_]? = _; rw [hZ]; exact heap_new _ _
  have hWZ : Below W.heap.size W Z := hb2.trans (hBZ.mono hb2.size)
  have tZ := (unhide ht).1.below hBZ
  have hS := (unhide ht).2
  have hl := hS.len
  have hl1 := hl.1
  have hl2 := hl.2
  have e1 : (tq q).by'.length = 0 := rfl
  have e2 : (tq q).sh.length = q.sh.length := rfl
  obtain ⟨m1, m2⟩ := unhide HLN
  have D12 := hide (shaped_yes tZ hS.ty (by omega) (by omega))
  have lZ : (ld34 (.pointer (some ⟨w2.heap.size, 0, none⟩))).run Tryz.prog Z = .ok (.agg #[.slice px nx cx, .slice py ny cy]) Z := bz.ld34
  have HZ := hide hZ; have HbZ := hide bz; have HWZ := hide hWZ; have HtZ := hide tZ; have HS := hide hS
  clear hZ hBZ bz hWZ tZ hS hl hl1 hl2 e1 e2 m1 m2 hb2 ht HDX lX
  go_upto_region 6 with fail
  rw [← unhide HZ]
  clear HZ
  go_wp2_with fail
  refine (unhide D12).mono ?_
  rintro e w3 ⟨rfl, hb3⟩
  have b3 := (unhide HbZ).same (hb3.block _ (unhide HbZ).lt)
  have y3 : w3.cell? ⟨w2.heap.size, 1, none⟩ = some (.slice py ny cy) := b3.cell 1
  have t3 := (unhide HtZ).below hb3
  have hW3 : Below W.heap.size W w3 := (unhide HWZ).trans (hb3.mono (unhide HWZ).size)
  have HW3 := hide hW3; have Ht3 := hide t3
  clear b3 t3 hW3 hb3 lZ D12 HbZ HtZ HWZ
  have hEc := scE_cases (tq q) R
  rw [← unhide HE] at hEc
  rcases hEc with e0 | e1
  · have hE0 : scE (tq q) R = 0 := (unhide HE).symm.trans e0
    have eL := tq_T hE0 (unhide HS)
    obtain ⟨_, eny, _, rows⟩ := tbl_rows (unhide Ht3)
    cases ho : oneQ q R with
    | true =>
      rw [ho, if_pos rfl] at eL
      subst eL
      obtain ⟨b, off, p, c, r1, r2, r3, r4⟩ := rows 0 (by simp)
      have hn1 : ny = 1 := by simpa using eny
      have r3' : w3.cell? ⟨b, off, none⟩ = some (.slice p nS c) := by
        have := r3
        simp only [List.getElem_cons_zero, List.length_map] at this
        rw [unhide HNS]; simpa using this
      have HO : Hid (TotOut W q R nS (.returned (.tuple #[.slice p nS c, .bool true])) w3) := by
        have eb : tqB q R = true := by unfold tqB; rw [hE0, ho]; rfl
        refine ⟨p, nS, c, by rw [eb], unhide HW3, fun _ => ⟨rfl, r4⟩⟩
      subst e0
      subst r1
      subst hn1
      clear eny rows r2 r3 r4 hE0 ho HS HE Ht3
      go_wp2_with fail
      refine bodyPost_ret (results_tt Tryz.results16 rfl rfl) rfl ?_
      exact unhide HO
    | false =>
      rw [ho, if_neg (by simp)] at eL
      subst eL
      have hn0 : ny = 0 := by simpa using eny
      have HO : Hid (TotOut W q R nS (.returned (.tuple #[.slice none 0 0, .bool false])) w3) := by
        have eb : tqB q R = false := by unfold tqB; rw [ho, Bool.and_false]
        refine ⟨none, 0, 0, by rw [eb], unhide HW3, fun h => by rw [eb] at h; cases h⟩
      subst e0
      subst hn0
      clear eny rows hE0 ho HS HE Ht3
      go_wp2_with fail
      refine bodyPost_ret (results_tt Tryz.results16 rfl rfl) rfl ?_
      exact unhide HO
  · have HO : Hid (TotOut W q R nS (.returned (.tuple #[.slice none 0 0, .bool false])) w3) := by
      have eb : tqB q R = false := by
        have hne : ¬ scE (tq q) R = 0 := by rw [← unhide HE]; rcases e1 with e | e <;> (rw [e]; decide)
        unfold tqB
        rw [decide_eq_false hne]; rfl
      refine ⟨none, 0, 0, by rw [eb], unhide HW3, fun h => by rw [eb] at h; cases h⟩
    clear HS HE Ht3
    rcases e1 with rfl | rfl
    all_goals
      go_wp2_with fail
      refine bodyPost_ret (results_tt Tryz.results16 rfl rfl) rfl ?_
      exact unhide HO
end
end Go.Proofs.YtbenciieenbmeaaGreatDoor
/- the law's small (17). -/
namespace Go.Proofs.YtbenciieenbmeaaGreatDoor
open Go Go.Shelf Go.ChangeShapes Go.WideShapes Go.ChangeAt Go.RowKit Go.Maps Go.Sort
set_option linter.unusedVariables false
set_option maxRecDepth 100000
set_option maxHeartbeats 8000000
def SmOut (L : List Cl) (W : World) (e : Ending) (w' : World) : Prop := (∃ b : Bool, e = .returned (.bool b) ∧ (b = true → ∀ x ∈ L, Sml x.num)) ∧ Below W.heap.size W w'
/-- small tells false where a number is great -/
theorem small_any {W : World} {p : Option Addr} {n c : Nat} {L : List Cl} (hn : L.length = n) (hL : Lies kC W p L) (hb : n ≤ 4194304) :
    Calls Tryz.prog 17 #[.slice p n c] W (SmOut L W) := by
  have CC : Hid (∀ k (hk : k < n), ∃ b off z, p = some ⟨b, off, none⟩ ∧ W.cell? ⟨b, off + k * 3 + 1, none⟩ = some (.int .i64 z) ∧ (∃ h : k < L.length, z = L[k].num)) := fun k hk => by
    obtain ⟨b, off, e, _, _, h3, _⟩ := cell_row hL (k := k) (by omega)
    exact ⟨b, off, _, e, h3, by omega, rfl⟩
  have HN := hide hn
  clear hL hn
  go_enter Tryz.func17, Tryz.ntmps17
  go_wp2_with fail
  go_loopw [3] (fun v3 wr => ∃ (i : Nat), v3 = .int .i64 i ∧ i ≤ n ∧ Hid (wr = W ∧ ∀ k (h : k < L.length), k < i → Sml L[k].num)) (fun v3 _ => n - (intOf v3).toNat)
  case atStart => exact ⟨0, rfl, by omega, rfl, fun k h hk => by omega⟩
  case round =>
    obtain ⟨i, rfl, hi, hB⟩ := hrel
    have hw := (unhide hB).1
    subst hw
    by_cases hlt : i < n
    · obtain ⟨b, off, z, e1, hc, hz⟩ := unhide CC i hlt
      subst e1
      have HZ := hide hz
      have hin : (i : Int) < (n : Int) := by omega
      have hi0 : ¬ (i : Int) < 0 := by omega
      clear hz
      by_cases h1 : z > 1152921504606846976
      · go_wp2_with fail
        go_ret
        exact ⟨⟨false, rfl, fun h => by cases h⟩, Below.refl _ _⟩
      · by_cases h2 : z < -1152921504606846976
        · go_wp2_with fail
          go_ret
          exact ⟨⟨false, rfl, fun h => by cases h⟩, Below.refl _ _⟩
        · go_wp2_with fail
          refine ⟨⟨i + 1, by simp, by omega, (by first | rfl | trivial), fun k h hk => ?_⟩, by simp [intOf]; omega⟩
          by_cases hki : k < i
          · exact (unhide hB).2 k h hki
          · have ek : k = i := by omega
            subst ek
            obtain ⟨_, e⟩ := unhide HZ
            rw [← e]
            exact ⟨by omega, by omega⟩
    · go_wp2_with fail
      go_ret
      refine ⟨⟨true, rfl, fun _ x hx => ?_⟩, Below.refl _ _⟩
      obtain ⟨k, hk, rfl⟩ := List.mem_iff_getElem.1 hx
      exact (unhide hB).2 k hk (by have := unhide HN; omega)
end Go.Proofs.YtbenciieenbmeaaGreatDoor
/- AnswerParts (6): its walk. -/
namespace Go.Proofs.YtbenciieenbmeaaGreatDoor
open Go Go.Shelf Go.ChangeShapes Go.WideShapes Go.ChangeAt Go.RowKit Go.Maps Go.Sort
set_option linter.unusedVariables false
set_option maxRecDepth 100000
set_option maxHeartbeats 8000000
theorem Lies.drop' {W : World} {b off : Nat} {L : List Ro} (h : Lies kR W (some ⟨b, off, none⟩) L) (k : Nat) : Lies kR W (some ⟨b, off + k * 9, none⟩) (L.drop k) := by
  have := h.part k (L.drop k).length
  rw [List.take_length] at this
  exact this
theorem drop_lies {w : World} {p : Option Addr} {L : List Ro} {k c : Nat} (h : Lies kR w p L) (hc : L.length ≤ c) : Lies kR w (if c = k then p else Option.map (fun x => x.add (k * 9)) p) (L.drop k) := by
  by_cases he : L.length ≤ k
  · rw [List.drop_eq_nil_of_le he]; exact Lies.nil _ _
  · rw [if_neg (by omega)]
    obtain ⟨b, off, e, _⟩ := h.2 0 (by omega)
    subst e
    rw [Option.map_some, Addr.add_mid]
    exact h.drop' k
theorem drop_none {p : Option Addr} {k c : Nat} (h : p = none → c = 0) : (if c = k then p else Option.map (fun x => x.add (k * 9)) p) = none → c - k = 0 := fun e => by
  by_cases hk : c = k
  · omega
  · rw [if_neg hk] at e
    cases p with
    | none => rw [h rfl]; exact Nat.zero_sub _
    | some a => cases e
/-- the least or greatest of two, as the law takes it -/
theorem part_end {k : Int} {a b c : Cl} (hk : k = 3 ∨ k = 4) (h : c = tkE k a b ∧ a.ty = b.ty ∧ (a.num = b.num ∨ a.tx = b.tx)) (h0 : a.ty ≠ 0) :
    ((a.num < b.num ∨ a.tx.data.toList < b.tx.data.toList) → c = if k = 4 then b else a) ∧ (¬ (a.num < b.num ∨ a.tx.data.toList < b.tx.data.toList) → c = if k = 4 then a else b) := by
  obtain ⟨h1, h2, h3⟩ := h
  have an := cmpC_anti a b
  have key : (a.num < b.num ∨ a.tx.data.toList < b.tx.data.toList) ↔ cmpC a b < 0 := by
    rw [cmpC_neg]
    rcases h3 with h3 | h3
    · rw [h3]
      constructor
      · rintro (h | h)
        · omega
        · exact .inr ⟨rfl, h⟩
      · rintro (h | ⟨_, h⟩)
        · omega
        · exact .inr h
    · rw [h3]
      have ir := List.lt_irrefl b.tx.data.toList
      constructor
      · rintro (h | h)
        · exact .inl h
        · exact absurd h ir
      · rintro (h | ⟨_, h⟩)
        · exact .inl h
        · exact absurd h ir
  rw [key]
  unfold tkE at h1
  rcases hk with rfl | rfl
  · rw [if_pos rfl] at h1
    simp only [h0, false_or] at h1
    refine ⟨fun h => ?_, fun h => ?_⟩
    · rw [if_neg (by decide), h1, if_neg (by omega)]
    · rw [if_neg (by decide), h1]
      by_cases h5 : cmpC b a < 0
      · rw [if_pos h5]
      · rw [if_neg h5]; exact cell_one h2 (by omega)
  · rw [if_neg (by decide), if_pos rfl] at h1
    simp only [h0, false_or] at h1
    refine ⟨fun h => ?_, fun h => ?_⟩
    · rw [if_pos rfl, h1, if_pos (by omega)]
    · rw [if_pos rfl, h1, if_neg (by omega)]
section
attribute [local go_sem ↓] ld32_is ldC_is
theorem parts_walk {W : World} {q : Qy} {a : Qa} {pR : Option Addr} {cR : Nat} {R : List Ro} {pP : Option Addr} {cP : Nat} {P : List Int} (n : Int) (g : Glb W) (h : Arg W q a pR cR R) (hcap : R.length ≤ cR) (hnI : inI n) :
    Calls Tryz.prog 6 #[.agg #[.slice a.pN q.nodes.length a.cN, .int .i64 q.wh, .slice a.pB q.by'.length a.cB, .slice a.pS q.sh.length a.cS, .slice a.pO q.ords.length a.cO, .int .i64 q.lim, .slice pR R.length cR, .slice pP P.length cP, .int .i64 n]] W fun e w' => e = .returned (.bool true) ∧ Below W.heap.size W w' := by
  obtain ⟨qa, hqa⟩ : ∃ v, v = qV q a := ⟨_, rfl⟩
  obtain ⟨nR, hnR⟩ : ∃ k, k = R.length := ⟨_, rfl⟩
  obtain ⟨nP, hnP⟩ : ∃ k, k = P.length := ⟨_, rfl⟩
  obtain ⟨nS, hnS⟩ : ∃ k, k = q.sh.length := ⟨_, rfl⟩
  obtain ⟨A, hA⟩ : ∃ A, A = W.alloc (.cells (qC q a ++ [Value.slice pR nR cR, .slice pP nP cP, .int .i64 n]).toArray 30) := ⟨_, rfl⟩
  have hBA : Below W.heap.size W A := by rw [hA]; exact Below.a1 W _
  have hAs : W.heap.size < A.heap.size := by rw [hA]; simp
  have bA : Bk A W.heap.size 30 (qC q a ++ [Value.slice pR nR cR, .slice pP nP cP, .int .i64 n]) := by show A.heap[_]? = _; rw [hA]; exact heap_new _ _
  have hnRb : nR ≤ 1048575 := by rw [hnR]; exact h.rn
  have hnRc : nR ≤ cR := by rw [hnR]; exact hcap
  have hnSb : nS ≤ 1048575 := by rw [hnS]; exact h.ns
  have D9 := hide (first9 (g.fl.below hBA) (g.mon.below hBA) (g.rc.below hBA) (g.mx.below hBA (by have := g.six; omega)) (by have := g.six; omega))
  have LD : Hid (∀ w1, Below A.heap.size A w1 → (ld32 (.pointer (some ⟨W.heap.size, 0, none⟩))).run Tryz.prog w1 = .ok qa w1 ∧ w1.cell? ⟨W.heap.size, 6, none⟩ = some (.slice pR nR cR) ∧ w1.cell? ⟨W.heap.size, 8, none⟩ = some (.int .i64 n) ∧ w1.cell? ⟨W.heap.size, 3, none⟩ = some (.slice a.pS nS a.cS)) := fun w1 hb => by
    have b1 := bA.same (hb.block _ hAs)
    refine ⟨?_, b1.cell 6, b1.cell 8, by rw [b1.cell 3, hnS]; rfl⟩
    rw [hqa]
    refine run_ld32 (fun j u hu => ?_)
    rw [b1.cell, Nat.zero_add]
    have hj : j < 6 := (List.getElem?_eq_some_iff.1 hu).1
    rw [List.getElem?_append_left hj]
    exact hu
  have TT : Hid (∀ w1 p k c M, Below A.heap.size A w1 → Lies kR w1 p M → M.length = k → (∀ r ∈ M, r ∈ R) → k ≤ 2097152 → (p = none → c = 0) → Calls Tryz.prog 16 #[qa, .slice p k c] w1 fun e w2 => ∃ p' n' c', e = .returned (.tuple #[.slice p' n' c', .bool (tqB q M)]) ∧ Below w1.heap.size w1 w2 ∧ Hid (tqB q M = true → n' = nS ∧ Lies kC w2 p' (q.sh.map (totC q M)))) := fun w1 p k c M hb hl hk hm hkb hc => by
    have hb1 : Below W.heap.size W w1 := hBA.trans (hb.mono hBA.size)
    have D := totals_any (cR := c) (h.sc g hb1 hl (by omega) (fun r hr => h.ro r (hm r hr))) h.qc hc
    rw [← hqa, hk] at D
    refine D.mono fun e w2 ho => ?_
    obtain ⟨p', n', c', e1, e2, e3⟩ := ho
    exact ⟨p', n', c', e1, e2, by rw [hnS]; exact e3⟩
  have RL : Hid (∀ w1, Below A.heap.size A w1 → Lies kR w1 pR R) := fun w1 hb => h.rl.below (hBA.trans (hb.mono hBA.size))
  have SH : Hid (∀ w1, Below A.heap.size A w1 → ∀ i (hi : i < nS), ∃ b off, a.pS = some ⟨b, off, none⟩ ∧ ∃ hq : i < q.sh.length, w1.cell? ⟨b, off + i * 2, none⟩ = some (.int .i64 q.sh[i].1)) := fun w1 hb i hi => by
    have hb1 : Below W.heap.size W w1 := hBA.trans (hb.mono hBA.size)
    obtain ⟨b, off, e1, _, hr⟩ := (h.qi.s.below hb1).2 i (by omega)
    exact ⟨b, off, e1, by omega, hr 0 _ rfl⟩
  have HRC : Hid ((pR = none → cR = 0) ∧ (∀ r ∈ R, RoOk r) ∧ (∀ x ∈ q.nodes, NdOk x)) := ⟨h.rc, h.ro, h.nd⟩
  have HA : Hid (A = W.alloc (.cells #[.slice a.pN q.nodes.length a.cN, .int .i64 q.wh, .slice a.pB q.by'.length a.cB, .slice a.pS nS a.cS, .slice a.pO q.ords.length a.cO, .int .i64 q.lim, .slice pR nR cR, .slice pP nP cP, .int .i64 n] 30)) := by rw [hnS]; exact hA
  have HBA := hide hBA; have HNR := hide hnR; have HNS := hide hnS
  have HO2 : Hid (∀ w', Below A.heap.size A w' → Below W.heap.size W w') := fun w' hb => hBA.trans (hb.mono hBA.size)
  have hnI1 : -9223372036854775808 ≤ n := hnI.1
  have hnI2 : n ≤ 9223372036854775807 := hnI.2
  rw [← hnR, ← hnP, ← hnS]
  clear g h hqa hnR hnP hnS hA hBA hAs bA hcap hnI
  go_enter Tryz.func6, Tryz.ntmps6
  go_upto_region 1 with fail
  rw [← unhide HA]
  clear HA
  go_wp2_with fail
  refine (unhide D9).mono ?_
  rintro e w1 ⟨rfl, hb1⟩
  obtain ⟨l1, l2, l3, l4⟩ := unhide LD w1 hb1
  have HB1 := hide hb1
  clear hb1 D9
  go_upto_region 5 with fail
  go_cut [28] (fun v28 wx => ∃ bb : Bool, v28 = .bool bb ∧ Hid (wx = w1) ∧ Hid (bb = false → 0 ≤ n ∧ n ≤ (nR : Int)))
  case first =>
    by_cases h0 : n < 0
    · go_wp2_with fail
      go_meet
      exact ⟨true, by simp, rfl, fun h => by cases h⟩
    · by_cases h1 : (nR : Int) < n
      · go_wp2_with fail
        go_meet
        exact ⟨true, by simp, rfl, fun h => by cases h⟩
      · go_wp2_with fail
        go_meet
        exact ⟨false, by simp, rfl, fun _ => ⟨by omega, by omega⟩⟩
  obtain ⟨bb, rfl, hwc, hbb⟩ := hcut
  rw [unhide hwc]
  clear hwc wc
  go_upto_if 28 with fail
  go_cut [4] (fun v4 wx => ∃ k : Nat, v4 = .int .i64 k ∧ k ≤ nR ∧ Hid (wx = w1))
  case first =>
    cases bb
    · obtain ⟨h0, h1⟩ := unhide hbb rfl
      obtain ⟨k, rfl⟩ : ∃ k : Nat, n = (k : Int) := ⟨n.toNat, by omega⟩
      go_wp2_with fail
      go_meet
      exact ⟨k, rfl, by omega, rfl⟩
    · go_wp2_with fail
      go_meet
      exact ⟨nR / 2, by simp, by omega, rfl⟩
  clear hbb bb
  obtain ⟨k, rfl, hk, hwc⟩ := hcut
  rw [unhide hwc]
  clear hwc wc l1 l2 l3 l4
  have hkc : k ≤ cR := by omega
  have hRl := unhide HNR
  obtain ⟨R1, hR1⟩ : ∃ M, M = R.take k := ⟨_, rfl⟩
  obtain ⟨R2, hR2⟩ : ∃ M, M = R.drop k := ⟨_, rfl⟩
  have HR1 : Hid (R1 = R.take k ∧ R1.length = k) := ⟨hR1, by rw [hR1, List.length_take]; omega⟩
  have HR2 : Hid (R2 = R.drop k ∧ R2.length = nR - k) := ⟨hR2, by rw [hR2, List.length_drop]; omega⟩
  have HRR : Hid (R1 ++ R2 = R) := by rw [hR1, hR2]; exact List.take_append_drop _ _
  clear hR1 hR2 hRl
  have T1 : Hid (∀ w, Below A.heap.size A w → Calls Tryz.prog 16 #[qa, .slice pR k cR] w fun e w2 => ∃ p' n' c', e = .returned (.tuple #[.slice p' n' c', .bool (tqB q R1)]) ∧ Below w.heap.size w w2 ∧ Hid (tqB q R1 = true → n' = nS ∧ Lies kC w2 p' (q.sh.map (totC q R1)))) := fun w hb => by
    refine unhide TT w pR k cR R1 hb ?_ (unhide HR1).2 (fun r hr => ?_) (by omega) (unhide HRC).1
    · rw [(unhide HR1).1]; exact (unhide RL w hb).take' k
    · rw [(unhide HR1).1] at hr; exact List.mem_of_mem_take hr
  go_upto_region 7 with fail
  refine wp_region_last (n := 12) (S := fun W' => (ld32 (.pointer (some ⟨W.heap.size, 0, none⟩))).run Tryz.prog W' = .ok qa W' ∧ W'.cell? ⟨W.heap.size, 6, none⟩ = some (.slice pR nR cR)) (by kernel_rfl) ⟨(unhide LD _ (below_drewN (unhide HB1) 1)).1, (unhide LD _ (below_drewN (unhide HB1) 1)).2.1⟩ (fun hHeld => ?_)
  refine tkW 0 ?_; refine tkN 1 ?_; refine tkW 2 ?_; refine tkN 3 ?_; refine tkW 4 ?_
  refine tkW 5 ?_
  have D1 := hide (unhide T1 _ (below_drewN (unhide HB1) 1))
  refine wpAnyL_one (i := 6) (by kernel_rfl) rfl (fun KK hK => ?_)
  go_simp
  refine (unhide D1).mono ?_
  rintro e w2 ⟨p2, n2, c2, rfl, hv, ht⟩
  have hbv : Below A.heap.size A w2 := (below_drewN (unhide HB1) 1).trans (hv.mono (below_drewN (unhide HB1) 1).size)
  have HB2 := hide hbv
  have HT2 := hide (unhide ht)
  have HL := hide (unhide LD _ hbv)
  clear hv ht hbv D1
  go_simp
  refine hK.out _ _ ⟨(unhide HL).1, (unhide HL).2.1⟩ (fun hHeld => ?_)
  clear hK KK HL
  refine tkW 7 ?_; refine tkW 8 ?_; refine tkW 9 ?_; refine tkW 10 ?_; refine tkW 11 ?_
  refine wpAnyL_done (by kernel_rfl) ?_
  have T2 : Hid (∀ w, Below A.heap.size A w → ∀ p' c', Lies kR w p' R2 → (p' = none → c' = 0) → Calls Tryz.prog 16 #[qa, .slice p' (nR - k) c'] w fun e w2 => ∃ p' n' c', e = .returned (.tuple #[.slice p' n' c', .bool (tqB q R2)]) ∧ Below w.heap.size w w2 ∧ Hid (tqB q R2 = true → n' = nS ∧ Lies kC w2 p' (q.sh.map (totC q R2)))) := fun w hb p' c' hl hc => by
    refine unhide TT w p' (nR - k) c' R2 hb hl (unhide HR2).2 (fun r hr => ?_) (by omega) hc
    rw [(unhide HR2).1] at hr; exact List.mem_of_mem_drop hr
  go_upto_region 8 with fail
  refine wp_region_last (n := 12) (S := fun W' => (ld32 (.pointer (some ⟨W.heap.size, 0, none⟩))).run Tryz.prog W' = .ok qa W' ∧ W'.cell? ⟨W.heap.size, 6, none⟩ = some (.slice pR nR cR)) (by kernel_rfl) ⟨(unhide LD _ (below_drewN (unhide HB2) 1)).1, (unhide LD _ (below_drewN (unhide HB2) 1)).2.1⟩ (fun hHeld => ?_)
  refine tkW 0 ?_; refine tkN 1 ?_; refine tkW 2 ?_; refine tkN 3 ?_; refine tkW 4 ?_
  refine tkW 5 ?_
  have D2 := hide (unhide T2 _ (below_drewN (unhide HB2) 1) (if cR = k then pR else Option.map (fun x => x.add (k * 9)) pR) (cR - k) (by rw [(unhide HR2).1]; exact drop_lies (unhide RL _ (below_drewN (unhide HB2) 1)) (by rw [← unhide HNR]; exact hnRc)) (drop_none (unhide HRC).1))
  refine wpAnyL_one (i := 6) (by kernel_rfl) rfl (fun KK hK => ?_)
  go_simp
  refine (unhide D2).mono ?_
  rintro e w3 ⟨p3, n3, c3, rfl, hv, ht⟩
  have hbv : Below A.heap.size A w3 := (below_drewN (unhide HB2) 1).trans (hv.mono (below_drewN (unhide HB2) 1).size)
  have HK3 : Hid (Below w2.heap.size w2 w3) := (below_drewN (Below.refl _ w2) 1).trans hv
  have HB3 := hide hbv
  have HT3 := hide (unhide ht)
  have HL := hide (unhide LD _ hbv)
  clear hv ht hbv D2
  go_simp
  refine hK.out _ _ ⟨(unhide HL).1, (unhide HL).2.1⟩ (fun hHeld => ?_)
  clear hK KK HL
  refine tkW 7 ?_; refine tkW 8 ?_; refine tkW 9 ?_; refine tkW 10 ?_; refine tkW 11 ?_
  refine wpAnyL_done (by kernel_rfl) ?_
  generalize (if cR = k then pR else Option.map (fun x => x.add (k * 9)) pR) = pp
  have D3 := hide (unhide TT w3 pR nR cR R (unhide HB3) (unhide RL w3 (unhide HB3)) (unhide HNR).symm (fun r hr => hr) (by omega) (unhide HRC).1)
  obtain ⟨l1, l2, l3, l4⟩ := unhide LD w3 (unhide HB3)
  clear T1 T2 TT hkc l3 l4
  go_wp2_with fail
  refine (unhide D3).mono ?_
  rintro e w4 ⟨p4, n4, c4, rfl, hv, ht⟩
  have HB4 : Hid (Below A.heap.size A w4) := (unhide HB3).trans (hv.mono (unhide HB3).size)
  have HK4 := hide hv
  have HT4 := hide (unhide ht)
  clear hv ht D3 l1 l2
  obtain ⟨l1, l2, l3, l4⟩ := unhide LD w4 (unhide HB4)
  cases hb1 : tqB q R1 with
  | false =>
    go_wp2_with fail
    go_ret
    exact ⟨rfl, unhide HO2 _ (unhide HB4)⟩
  | true =>
  cases hb2 : tqB q R2 with
  | false =>
    go_wp2_with fail
    go_ret
    exact ⟨rfl, unhide HO2 _ (unhide HB4)⟩
  | true =>
  have dec : ∀ U, tqB q U = true → scE (tq q) U = 0 ∧ oneQ q U = true := fun U hU => by
    unfold tqB at hU
    rw [Bool.and_eq_true, decide_eq_true_iff] at hU
    exact hU
  obtain ⟨s1, o1⟩ := dec R1 hb1
  obtain ⟨s2, o2⟩ := dec R2 hb2
  have hlen : R1.length + R2.length < 4294967296 := by rw [(unhide HR1).2, (unhide HR2).2]; omega
  have LW := parts_law hlen (by rw [unhide HRR]; exact (unhide HRC).2.1) (unhide HRC).2.2 s1 o1 s2 o2
  rw [unhide HRR] at LW
  obtain ⟨o3, lw1, lw2⟩ := LW
  obtain ⟨e2, L2⟩ := unhide HT2 hb1
  obtain ⟨e3, L3⟩ := unhide HT3 hb2
  have hK23 : Below w2.heap.size w2 w4 := (unhide HK3).trans ((unhide HK4).mono (unhide HK3).size)
  have L2' := L2.below hK23
  have L3' := L3.below (unhide HK4)
  have HL2 := hide L2'; have HL3 := hide L3'
  cases hb3 : tqB q R with
  | false =>
    have hne : scE (tq q) R ≠ 0 := fun e => by unfold tqB at hb3; rw [e, o3] at hb3; cases hb3
    obtain ⟨x, hx, hxs⟩ := lw1 hne
    have S1 := hide (small_any (n := nS) (c := c2) (by rw [List.length_map]; exact (unhide HNS).symm) L2' (by omega))
    have S2 : Hid (∀ w5, Below w4.heap.size w4 w5 → Calls Tryz.prog 17 #[.slice p3 nS c3] w5 (SmOut (q.sh.map (totC q R2)) w5)) := fun w5 hb => small_any (n := nS) (c := c3) (by rw [List.length_map]; exact (unhide HNS).symm) (L3'.below hb) (by omega)
    have HXS : Hid (¬ (∀ y ∈ q.sh.map (totC q R1), Sml y.num) ∨ ¬ (∀ y ∈ q.sh.map (totC q R2), Sml y.num)) := by
      rcases hxs with h | h
      · exact .inl (fun hh => h (hh _ (List.mem_map.2 ⟨x, hx, rfl⟩)))
      · exact .inr (fun hh => h (hh _ (List.mem_map.2 ⟨x, hx, rfl⟩)))
    have e2' := e2.symm; have e3' := e3.symm
    clear e2 e3
    subst e2'
    subst e3'
    clear hne hx hxs dec s1 o1 s2 o2 hlen o3 lw1 lw2 L2 L3 hK23 L2' L3' l1 l2 l3 l4 hb1 hb2 hb3 HT2 HT3 HT4 HL2 HL3
    go_wp2_with fail
    refine (unhide S1).mono ?_
    rintro e w5 ⟨⟨t1, rfl, ht1⟩, hb5⟩
    have HB5 : Hid (Below A.heap.size A w5) := (unhide HB4).trans (hb5.mono (unhide HB4).size)
    have HT1 := hide ht1
    have DS2 := hide (unhide S2 w5 hb5)
    clear hb5 ht1 S1 S2
    cases t1 with
    | false =>
      go_wp2_with fail
      go_ret
      exact ⟨rfl, unhide HO2 _ (unhide HB5)⟩
    | true =>
      go_wp2_with fail
      refine (unhide DS2).mono ?_
      rintro e w6 ⟨⟨t2, rfl, ht2⟩, hb6⟩
      have HB6 : Hid (Below A.heap.size A w6) := (unhide HB5).trans (hb6.mono (unhide HB5).size)
      have et2 : t2 = false := by
        cases t2 with
        | false => rfl
        | true => rcases unhide HXS with h | h; exact absurd (unhide HT1 (by first | rfl | trivial)) h; exact absurd (ht2 (by first | rfl | trivial)) h
      subst et2
      clear hb6 ht2
      go_wp2_with fail
      go_ret
      exact ⟨rfl, unhide HO2 _ (unhide HB6)⟩
  | true =>
    have h0 : scE (tq q) R = 0 := (dec R hb3).1
    have PO := hide (lw2 h0)
    obtain ⟨e4, L4⟩ := unhide HT4 hb3
    have HL4 := hide L4
    have HKD : Hid (∀ x ∈ q.sh, (x.1 = 1 ∨ x.1 = 2 ∨ x.1 = 3 ∨ x.1 = 4) ∧ (x.1 = 3 ∨ x.1 = 4 → (totC q R1 x).ty ≠ 0)) := fun x hx => ⟨(col_nz (scE_zero s1).1 hx).1, fun _ => ((tq_E q R1).1 s1).2.2 o1 x hx⟩
    have e2' := e2.symm; have e3' := e3.symm; have e4' := e4.symm
    clear e2 e3 e4
    subst e2'
    subst e3'
    subst e4'
    clear h0 dec s1 o1 s2 o2 hlen o3 lw1 lw2 L2 L3 L4 hK23 L2' L3' hb1 hb2 hb3 HT2 HT3 HT4 HK3 HK4
    go_wp2_with fail
    go_loopw [11] (fun v11 wr => ∃ (i : Nat), v11 = .int .i64 i ∧ i ≤ nS ∧ Hid (Below w4.heap.size w4 wr)) (fun v11 _ => nS - (intOf v11).toNat)
    case atStart => exact ⟨0, rfl, by omega, Below.refl _ _⟩
    case round =>
      obtain ⟨i, rfl, hi, hb⟩ := hrel
      have hbA : Below A.heap.size A wr := (unhide HB4).trans ((unhide hb).mono (unhide HB4).size)
      obtain ⟨_, _, _, m4⟩ := unhide LD wr hbA
      by_cases hlt : i < nS
      · obtain ⟨b, off, ep, hq, hkd⟩ := unhide SH wr hbA i hlt
        have hx := List.getElem_mem hq
        obtain ⟨hkk, hty⟩ := unhide HKD _ hx
        have po := unhide PO _ hx
        have ca := cell_row ((unhide HL2).below (unhide hb)) (k := i) (by rw [List.length_map]; exact hq)
        have cb := cell_row ((unhide HL3).below (unhide hb)) (k := i) (by rw [List.length_map]; exact hq)
        have cc := cell_row ((unhide HL4).below (unhide hb)) (k := i) (by rw [List.length_map]; exact hq)
        simp only [List.getElem_map] at ca cb cc
        obtain ⟨kd, hkdv⟩ : ∃ kd, kd = q.sh[i].1 := ⟨_, rfl⟩
        rw [← hkdv] at hkd hkk hty po
        generalize totC q R1 q.sh[i] = ta at ca po hty
        generalize totC q R2 q.sh[i] = tb at cb po
        generalize totC q R q.sh[i] = tc at cc po
        obtain ⟨ya, xa, sa⟩ := ta
        obtain ⟨yb, xb, sb⟩ := tb
        obtain ⟨yc, xc, sc⟩ := tc
        obtain ⟨ba, oa, fa, la, a0, a1, a2⟩ := ca
        obtain ⟨bb, ob, fb, lb, b0, b1, b2⟩ := cb
        obtain ⟨bc, oc, fc, lc, c0, c1, c2'⟩ := cc
        have hin : (i : Int) < (nS : Int) := by omega
        have hi0 : ¬ (i : Int) < 0 := by omega
        rw [ep] at m4
        subst fa
        subst fb
        subst fc
        simp only at a0 a1 a2 b0 b1 b2 c0 c1 c2'
        have HPO := hide po; have HTY := hide hty
        clear po hty hx hkdv
        by_cases h12 : kd = 1 ∨ kd = 2
        · obtain ⟨hs, hI⟩ := (unhide HPO).1 h12
          simp only at hs hI
          unfold I64 at hI
          obtain ⟨hI1, hI2⟩ := hI
          have HB' := hide (unhide hb)
          subst hs
          clear a0 b0 c0 a2 b2 c2' HPO HTY hkk hbA
          rcases h12 with rfl | rfl
          all_goals
            go_upto_region 21 with fail
            go_quiet (fail)
            go_wp2_with fail
            refine ⟨⟨i + 1, by simp, by omega, below_drewN (unhide HB') nq⟩, by simp [intOf]; omega⟩
        · have hk34 : kd = 3 ∨ kd = 4 := by omega
          have pe := part_end hk34 ((unhide HPO).2 hk34) (unhide HTY hk34)
          simp only at pe
          have ra : wr.rangeAt ba (oa + i * 3) (Cl.vals ⟨ya, xa, sa⟩) := fun j u hu => by
            match j, hu with
            | 0, hu => cases hu; exact a0
            | 1, hu => cases hu; exact a1
            | 2, hu => cases hu; exact a2
          have rb : wr.rangeAt bb (ob + i * 3) (Cl.vals ⟨yb, xb, sb⟩) := fun j u hu => by
            match j, hu with
            | 0, hu => cases hu; exact b0
            | 1, hu => cases hu; exact b1
            | 2, hu => cases hu; exact b2
          have rc' : wr.rangeAt bc (oc + i * 3) (Cl.vals ⟨yc, xc, sc⟩) := fun j u hu => by
            match j, hu with
            | 0, hu => cases hu; exact c0
            | 1, hu => cases hu; exact c1
            | 2, hu => cases hu; exact c2'
          have LA : Hid (∀ w, Below wr.heap.size wr w → (ldC (.pointer (some ⟨ba, oa + i * 3, none⟩))).run Tryz.prog w = .ok (.agg #[.int .i64 ya, .int .i64 xa, .string sa]) w) := fun w hw => run_ldC (c := ⟨ya, xa, sa⟩) (fun j u hu => (hw.cell (p := ⟨ba, oa + i * 3 + j, none⟩) la).trans (ra j u hu))
          have LB : Hid (∀ w, Below wr.heap.size wr w → (ldC (.pointer (some ⟨bb, ob + i * 3, none⟩))).run Tryz.prog w = .ok (.agg #[.int .i64 yb, .int .i64 xb, .string sb]) w) := fun w hw => run_ldC (c := ⟨yb, xb, sb⟩) (fun j u hu => (hw.cell (p := ⟨bb, ob + i * 3 + j, none⟩) lb).trans (rb j u hu))
          have LC : Hid (∀ w, Below wr.heap.size wr w → (ldC (.pointer (some ⟨bc, oc + i * 3, none⟩))).run Tryz.prog w = .ok (.agg #[.int .i64 yc, .int .i64 xc, .string sc]) w) := fun w hw => run_ldC (c := ⟨yc, xc, sc⟩) (fun j u hu => (hw.cell (p := ⟨bc, oc + i * 3 + j, none⟩) lc).trans (rc' j u hu))
          have LT : Hid (∀ (w : World) (t x : Int) (s : ByteArray) n, (ldC (.pointer (some ⟨w.heap.size, 0, none⟩))).run Tryz.prog ((w.alloc (.cells #[.int .i64 t, .int .i64 x, .string s] 45)).drewN n) = .ok (.agg #[.int .i64 t, .int .i64 x, .string s]) ((w.alloc (.cells #[.int .i64 t, .int .i64 x, .string s] 45)).drewN n)) := fun w t x s n => run_ldC (c := ⟨t, x, s⟩) (fun j u hu => by
            have hb0 : Bk ((w.alloc (.cells #[.int .i64 t, .int .i64 x, .string s] 45)).drewN n) w.heap.size 45 (Cl.vals ⟨t, x, s⟩) := heap_new w _
            rw [hb0.cell, Nat.zero_add]; exact hu)
          have HB' := hide (unhide hb)
          have HPE := hide pe
          clear pe ra rb rc' a0 b0 c0 c1 c2' hkk HPO HTY hbA h12
          by_cases hxl : xa < xb
          · have hC := (unhide HPE).1 (.inl hxl)
            rcases hk34 with rfl | rfl
            · simp at hC
              obtain ⟨h5, h6, h7⟩ := hC
              have h5 := h5.symm; have h6 := h6.symm; have h7 := h7.symm
              subst h5; subst h6; subst h7
              clear HPE
              go_upto_region 23 with fail
              go_quiet (fail)
              obtain ⟨w0, hw0⟩ : ∃ x, x = wr.drewN nq := ⟨_, rfl⟩
              rw [← hw0]
              have bq : Below wr.heap.size wr w0 := by rw [hw0]; exact below_drewN (Below.refl _ wr) nq
              have lA := unhide LA _ bq
              have bV : Below wr.heap.size wr (w0.alloc (.cells #[.int .i64 ya, .int .i64 xa, .string sa] 45)) := bq.alloc bq.size _
              have HV := hide (below_drewN bV 1)
              have q1 := eg45
              have q2 := eq45 ya xa sa
              clear bq bV a1 a2 b1 b2 hw0
              go_upto_region 27 with fail
              refine wp_region_last (n := 6) (S := fun W' => (ldC (.pointer (some ⟨bc, oc + i * 3, none⟩))).run Tryz.prog W' = .ok (.agg #[.int .i64 ya, .int .i64 xa, .string sa]) W' ∧ (ldC (.pointer (some ⟨w0.heap.size, 0, none⟩))).run Tryz.prog W' = .ok (.agg #[.int .i64 ya, .int .i64 xa, .string sa]) W') (by kernel_rfl) ⟨unhide LC _ (unhide HV), unhide LT w0 ya xa sa 1⟩ (fun hHeld => ?_)
              refine tkW 0 ?_; refine tkW 1 ?_; refine tkW 2 ?_; refine tkN 3 ?_; refine tkN 4 ?_; refine tkW 5 ?_
              refine wpAnyL_done (by kernel_rfl) ?_
              go_wp2_with fail
              refine ⟨⟨i + 1, by simp, by omega, (unhide HB').trans ((unhide HV).mono (unhide HB').size)⟩, by simp [intOf]; omega⟩
            · simp at hC
              obtain ⟨h5, h6, h7⟩ := hC
              have h5 := h5.symm; have h6 := h6.symm; have h7 := h7.symm
              subst h5; subst h6; subst h7
              clear HPE
              go_upto_region 23 with fail
              go_quiet (fail)
              obtain ⟨w0, hw0⟩ : ∃ x, x = wr.drewN nq := ⟨_, rfl⟩
              rw [← hw0]
              have bq : Below wr.heap.size wr w0 := by rw [hw0]; exact below_drewN (Below.refl _ wr) nq
              have lA := unhide LA _ bq
              have bV : Below wr.heap.size wr (w0.alloc (.cells #[.int .i64 ya, .int .i64 xa, .string sa] 45)) := bq.alloc bq.size _
              have lB := unhide LB _ bV
              have bV2 : Below wr.heap.size wr (w0.alloc (.cells #[.int .i64 yb, .int .i64 xb, .string sb] 45)) := bq.alloc bq.size _
              have HV := hide (below_drewN bV2 1)
              clear bV2
              have q1 := eg45
              have q2 := eq45 yb xb sb
              clear bq bV a1 a2 b1 b2 hw0
              go_upto_region 27 with fail
              refine wp_region_last (n := 6) (S := fun W' => (ldC (.pointer (some ⟨bc, oc + i * 3, none⟩))).run Tryz.prog W' = .ok (.agg #[.int .i64 yb, .int .i64 xb, .string sb]) W' ∧ (ldC (.pointer (some ⟨w0.heap.size, 0, none⟩))).run Tryz.prog W' = .ok (.agg #[.int .i64 yb, .int .i64 xb, .string sb]) W') (by kernel_rfl) ⟨unhide LC _ (unhide HV), unhide LT w0 yb xb sb 1⟩ (fun hHeld => ?_)
              refine tkW 0 ?_; refine tkW 1 ?_; refine tkW 2 ?_; refine tkN 3 ?_; refine tkN 4 ?_; refine tkW 5 ?_
              refine wpAnyL_done (by kernel_rfl) ?_
              go_wp2_with fail
              refine ⟨⟨i + 1, by simp, by omega, (unhide HB').trans ((unhide HV).mono (unhide HB').size)⟩, by simp [intOf]; omega⟩
          · by_cases hsl : sa.data.toList < sb.data.toList
            · have hC := (unhide HPE).1 (.inr hsl)
              have i1 := bl_yes hsl
              clear hsl
              rcases hk34 with rfl | rfl
              · simp at hC
                obtain ⟨h5, h6, h7⟩ := hC
                have h5 := h5.symm; have h6 := h6.symm; have h7 := h7.symm
                subst h5; subst h6; subst h7
                clear HPE
                go_upto_region 23 with fail
                go_quiet (fail)
                obtain ⟨w0, hw0⟩ : ∃ x, x = wr.drewN nq := ⟨_, rfl⟩
                rw [← hw0]
                have bq : Below wr.heap.size wr w0 := by rw [hw0]; exact below_drewN (Below.refl _ wr) nq
                have lA := unhide LA _ bq
                have bV : Below wr.heap.size wr (w0.alloc (.cells #[.int .i64 ya, .int .i64 xa, .string sa] 45)) := bq.alloc bq.size _
                have HV := hide (below_drewN bV 1)
                have q1 := eg45
                have q2 := eq45 ya xa sa
                clear bq bV a1 a2 b1 b2 hw0
                go_upto_region 27 with fail
                refine wp_region_last (n := 6) (S := fun W' => (ldC (.pointer (some ⟨bc, oc + i * 3, none⟩))).run Tryz.prog W' = .ok (.agg #[.int .i64 ya, .int .i64 xa, .string sa]) W' ∧ (ldC (.pointer (some ⟨w0.heap.size, 0, none⟩))).run Tryz.prog W' = .ok (.agg #[.int .i64 ya, .int .i64 xa, .string sa]) W') (by kernel_rfl) ⟨unhide LC _ (unhide HV), unhide LT w0 ya xa sa 1⟩ (fun hHeld => ?_)
                refine tkW 0 ?_; refine tkW 1 ?_; refine tkW 2 ?_; refine tkN 3 ?_; refine tkN 4 ?_; refine tkW 5 ?_
                refine wpAnyL_done (by kernel_rfl) ?_
                go_wp2_with fail
                refine ⟨⟨i + 1, by simp, by omega, (unhide HB').trans ((unhide HV).mono (unhide HB').size)⟩, by simp [intOf]; omega⟩
              · simp at hC
                obtain ⟨h5, h6, h7⟩ := hC
                have h5 := h5.symm; have h6 := h6.symm; have h7 := h7.symm
                subst h5; subst h6; subst h7
                clear HPE
                go_upto_region 23 with fail
                go_quiet (fail)
                obtain ⟨w0, hw0⟩ : ∃ x, x = wr.drewN nq := ⟨_, rfl⟩
                rw [← hw0]
                have bq : Below wr.heap.size wr w0 := by rw [hw0]; exact below_drewN (Below.refl _ wr) nq
                have lA := unhide LA _ bq
                have bV : Below wr.heap.size wr (w0.alloc (.cells #[.int .i64 ya, .int .i64 xa, .string sa] 45)) := bq.alloc bq.size _
                have lB := unhide LB _ bV
                have bV2 : Below wr.heap.size wr (w0.alloc (.cells #[.int .i64 yb, .int .i64 xb, .string sb] 45)) := bq.alloc bq.size _
                have HV := hide (below_drewN bV2 1)
                clear bV2
                have q1 := eg45
                have q2 := eq45 yb xb sb
                clear bq bV a1 a2 b1 b2 hw0
                go_upto_region 27 with fail
                refine wp_region_last (n := 6) (S := fun W' => (ldC (.pointer (some ⟨bc, oc + i * 3, none⟩))).run Tryz.prog W' = .ok (.agg #[.int .i64 yb, .int .i64 xb, .string sb]) W' ∧ (ldC (.pointer (some ⟨w0.heap.size, 0, none⟩))).run Tryz.prog W' = .ok (.agg #[.int .i64 yb, .int .i64 xb, .string sb]) W') (by kernel_rfl) ⟨unhide LC _ (unhide HV), unhide LT w0 yb xb sb 1⟩ (fun hHeld => ?_)
                refine tkW 0 ?_; refine tkW 1 ?_; refine tkW 2 ?_; refine tkN 3 ?_; refine tkN 4 ?_; refine tkW 5 ?_
                refine wpAnyL_done (by kernel_rfl) ?_
                go_wp2_with fail
                refine ⟨⟨i + 1, by simp, by omega, (unhide HB').trans ((unhide HV).mono (unhide HB').size)⟩, by simp [intOf]; omega⟩
            · have hC := (unhide HPE).2 (fun h => h.elim hxl hsl)
              have i1 := bl_no hsl
              clear hsl
              rcases hk34 with rfl | rfl
              · simp at hC
                obtain ⟨h5, h6, h7⟩ := hC
                have h5 := h5.symm; have h6 := h6.symm; have h7 := h7.symm
                subst h5; subst h6; subst h7
                clear HPE
                go_upto_region 23 with fail
                go_quiet (fail)
                obtain ⟨w0, hw0⟩ : ∃ x, x = wr.drewN nq := ⟨_, rfl⟩
                rw [← hw0]
                have bq : Below wr.heap.size wr w0 := by rw [hw0]; exact below_drewN (Below.refl _ wr) nq
                have lA := unhide LA _ bq
                have bV : Below wr.heap.size wr (w0.alloc (.cells #[.int .i64 ya, .int .i64 xa, .string sa] 45)) := bq.alloc bq.size _
                have lB := unhide LB _ bV
                have bV2 : Below wr.heap.size wr (w0.alloc (.cells #[.int .i64 yb, .int .i64 xb, .string sb] 45)) := bq.alloc bq.size _
                have HV := hide (below_drewN bV2 1)
                clear bV2
                have q1 := eg45
                have q2 := eq45 yb xb sb
                clear bq bV a1 a2 b1 b2 hw0
                go_upto_region 27 with fail
                refine wp_region_last (n := 6) (S := fun W' => (ldC (.pointer (some ⟨bc, oc + i * 3, none⟩))).run Tryz.prog W' = .ok (.agg #[.int .i64 yb, .int .i64 xb, .string sb]) W' ∧ (ldC (.pointer (some ⟨w0.heap.size, 0, none⟩))).run Tryz.prog W' = .ok (.agg #[.int .i64 yb, .int .i64 xb, .string sb]) W') (by kernel_rfl) ⟨unhide LC _ (unhide HV), unhide LT w0 yb xb sb 1⟩ (fun hHeld => ?_)
                refine tkW 0 ?_; refine tkW 1 ?_; refine tkW 2 ?_; refine tkN 3 ?_; refine tkN 4 ?_; refine tkW 5 ?_
                refine wpAnyL_done (by kernel_rfl) ?_
                go_wp2_with fail
                refine ⟨⟨i + 1, by simp, by omega, (unhide HB').trans ((unhide HV).mono (unhide HB').size)⟩, by simp [intOf]; omega⟩
              · simp at hC
                obtain ⟨h5, h6, h7⟩ := hC
                have h5 := h5.symm; have h6 := h6.symm; have h7 := h7.symm
                subst h5; subst h6; subst h7
                clear HPE
                go_upto_region 23 with fail
                go_quiet (fail)
                obtain ⟨w0, hw0⟩ : ∃ x, x = wr.drewN nq := ⟨_, rfl⟩
                rw [← hw0]
                have bq : Below wr.heap.size wr w0 := by rw [hw0]; exact below_drewN (Below.refl _ wr) nq
                have lA := unhide LA _ bq
                have bV : Below wr.heap.size wr (w0.alloc (.cells #[.int .i64 ya, .int .i64 xa, .string sa] 45)) := bq.alloc bq.size _
                have HV := hide (below_drewN bV 1)
                have q1 := eg45
                have q2 := eq45 ya xa sa
                clear bq bV a1 a2 b1 b2 hw0
                go_upto_region 27 with fail
                refine wp_region_last (n := 6) (S := fun W' => (ldC (.pointer (some ⟨bc, oc + i * 3, none⟩))).run Tryz.prog W' = .ok (.agg #[.int .i64 ya, .int .i64 xa, .string sa]) W' ∧ (ldC (.pointer (some ⟨w0.heap.size, 0, none⟩))).run Tryz.prog W' = .ok (.agg #[.int .i64 ya, .int .i64 xa, .string sa]) W') (by kernel_rfl) ⟨unhide LC _ (unhide HV), unhide LT w0 ya xa sa 1⟩ (fun hHeld => ?_)
                refine tkW 0 ?_; refine tkW 1 ?_; refine tkW 2 ?_; refine tkN 3 ?_; refine tkN 4 ?_; refine tkW 5 ?_
                refine wpAnyL_done (by kernel_rfl) ?_
                go_wp2_with fail
                refine ⟨⟨i + 1, by simp, by omega, (unhide HB').trans ((unhide HV).mono (unhide HB').size)⟩, by simp [intOf]; omega⟩
      · go_wp2_with fail
        go_ret
        exact ⟨rfl, unhide HO2 _ hbA⟩
end
end Go.Proofs.YtbenciieenbmeaaGreatDoor
/- an argument's rows have their room. -/
namespace Go.Proofs.YtbenciieenbmeaaGreatDoor
open Go.Deep Go Go.RowKit Go.Shelf Go.ChangeShapes Go.WideShapes Go.ChangeAt Go.Maps
set_option linter.unusedVariables false
set_option maxRecDepth 100000
set_option maxHeartbeats 8000000
theorem mixed_cap {H : Type} {enc : TypeId × Value → H} {W : World} {v a0 a1 a2 a3 a4 a5 a7 a8 : Value} {pR : Option Addr} {n cR : Nat} {d : DataW H} {p : List MemPlace} (h : ∃ fuel, DataW.trod enc Tryz.prog W 0 (fun _ => true) true fuel 30 v.cells.toList = some (d, p)) (e : v = .agg #[a0, a1, a2, a3, a4, a5, .slice pR n cR, a7, a8]) : n ≤ cR := by
  subst e
  obtain ⟨fuel, hf⟩ := h
  obtain ⟨xs, m, _, hx, hl, hlen, hg⟩ := DataW.trod_struct Tryz.underlying30 hf
  match xs, hlen with
  | [y0, y1, y2, y3], _ =>
    have g1 := hg 1 _ rfl
    simp [Value.cells, c28] at g1
    rcases open_slice Tryz.underlying28 g1 with ⟨hcs, _⟩ | ⟨a, len, cap, m', n', D, Pl, hcs, hb, hl', _⟩
    · simp only [List.cons.injEq, and_true, Value.slice.injEq] at hcs
      omega
    · simp only [List.cons.injEq, and_true, Value.slice.injEq] at hcs
      omega
end Go.Proofs.YtbenciieenbmeaaGreatDoor
