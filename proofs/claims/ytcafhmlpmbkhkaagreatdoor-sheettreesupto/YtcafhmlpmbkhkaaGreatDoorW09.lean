import Derived.Test.YtcafhmlpmbkhkaaGreatDoorW08
import Derived.Laws.BytesArg
import Derived.Laws.IdiomStrings
import Derived.Test.YtcafhmlpmbkhkaaGreatDoorW03
/- The grid's text (51). -/
namespace Go.Proofs.YtcafhmlpmbkhkaaGreatDoor
open Go Go.Shelf Go.ChangeShapes Go.WideShapes Go.ChangeAt Go.RowKit Go.Maps
set_option linter.unusedVariables false
set_option linter.unusedSimpArgs false
theorem bcs_get {l : Tx} {j : Nat} (h : j < l.length) : (bcs l)[j]? = some (.int .u8 (l[j].toNat : Int)) := by simp [bcs, h]
set_option maxRecDepth 100000 in
theorem conv_row {w0 W : World} {T : Tx} {p : Option Addr} {n c : Nat} (h : By w0 T (.slice p n c) W) : (convert 196 9 (.slice p n c)).run Tryz.prog W = .ok (.string (txB T)) W := by
  rcases h.own.2 with ⟨h1, h2⟩ | ⟨g, cap, cur, h1, _⟩
  · injection h1 with h1 h1b h1c
    subst h1 h1b h1c
    have hb : T = [] := List.eq_nil_of_length_eq_zero h2
    subst hb
    exact run_convert_bytes_nil W 196 5 Tryz.underlying196 Tryz.underlying5 _ _ 9 Tryz.underlying9
  · injection h1 with h1 h1b h1c
    subst h1 h1b h1c
    exact run_convert_bytes_back (P := Tryz.prog) W 196 9 5 ⟨g, 0, none⟩ _ T Tryz.underlying196 Tryz.underlying5 Tryz.underlying9 (fun j hj => h.own.cells (g := g) rfl j _ (bcs_get hj))
theorem WdAt.lies {w : World} {m : Nat} {f : Nat → Nat} {g c : Nat} {wr : World} (a : WdAt w m f g c wr) : Lies kI wr (some ⟨g, 0, none⟩) (wds m f) := own_lies kI_ok (wds_len m f) a.own
/-- what text hands back -/
def TxtOut (w : World) (T : Tx) (e : Ending) (w' : World) : Prop := e = .returned (.string (txB T)) ∧ Below w.heap.size w w'
set_option maxRecDepth 100000 in
set_option maxHeartbeats 8000000 in
theorem gtext_of {B : Nat} {w : World} {d : Nat} {S : List Int} {R : List (List Tx)} (h0 : Gr B w d S R) (hm : S.length ≤ 1048576) (hR : ∀ r ∈ R, r.length ≤ S.length) {M : Nat} (hM : ∀ r ∈ R, ∀ x ∈ r, x.length ≤ M) (hM1 : M ≤ 1099511627776)
    (htot : (R.length + 1) * (S.length * (M + 2) + 1) ≤ 140737488355328) (hn : R.length ≤ 1099511627776) :
    Calls Tryz.prog 51 #[.pointer (some ⟨d, 0, none⟩)] w (TxtOut w (gridT (rgt S) R)) := by
  obtain ⟨ps, cs, pr, cr, L, h⟩ := h0
  have hdlt : d < w.heap.size := (Array.getElem?_eq_some_iff.1 h.cell).1
  obtain ⟨n, hRn⟩ : ∃ n, n = R.length := ⟨_, rfl⟩
  have hwm : ∀ c, wid R c ≤ M := fun c => wid_le fun r hr => by
    rw [List.getD_eq_getElem?_getD]
    rcases Nat.lt_or_ge c r.length with hc | hc
    · rw [List.getElem?_eq_getElem hc]
      exact hM r hr _ (List.getElem_mem hc)
    · rw [List.getElem?_eq_none hc]
      exact Nat.zero_le _
  have hc1 : w.cell? ⟨d, 1, none⟩ = some (.slice pr n cr) := by rw [cell_at h.cell, hRn]; rfl
  have D1 := hide (widths_any ⟨ps, cs, pr, cr, L, h⟩ hm hR (fun r hr x hx => Nat.le_trans (hM r hr x hx) hM1) hn)
  have H := hide h; have HN := hide hRn; have HR := hide hR; have HWM := hide hwm; have HTOT := hide htot; have HM1 := hide hM; have HC1 := hide hc1
  have hnn : n ≤ 1099511627776 := by omega
  have HSL := hide hm
  clear h hR hM hwm htot hn hc1 hm hRn
  go_enter Tryz.func51, Tryz.ntmps51
  go_wp2_with fail
  refine (unhide D1).mono ?_
  rintro e w1 ⟨g, cg, rfl, hw⟩
  have HW := hide hw
  have hc1 : w1.cell? ⟨d, 1, none⟩ = some (.slice pr n cr) := keep1 hw.bel hdlt (unhide HC1)
  clear D1 hw
  go_wp2_with fail
  go_loopw [4, 14] (fun tv iv wr => ∃ (k : Nat) (K : Int), k ≤ n ∧ iv = .int .i64 K ∧ K = (k : Int) ∧ (∃ p' n' c', tv = .slice p' n' c') ∧ Hid (By w1 (linesT (rgt S) (wid R) (R.take k)) tv wr)) (fun _ iv _ => ((n : Int) - intOf iv).toNat)
  case atStart => exact ⟨0, 0, by omega, rfl, rfl, ⟨_, _, _, rfl⟩, World.ownsRow_nil _ _ _ _, Below.refl _ _⟩
  case round =>
    obtain ⟨wo, rfl⟩ : ∃ x, x = wr := ⟨wr, rfl⟩
    obtain ⟨k, K, hk, rfl, hK, ⟨p1, n1, c1, rfl⟩, HA⟩ := hrel
    by_cases hlt : k < n
    · have hI : K < (n : Int) := by omega
      have hK0 : 0 ≤ K := by omega
      have hKt : K.toNat = k := by omega
      have hkR : k < R.length := by have := unhide HN; omega
      obtain ⟨r, hr⟩ : ∃ r, R[k]? = some r := ⟨R[k], List.getElem?_eq_getElem hkR⟩
      obtain ⟨s, hs⟩ : ∃ s, L[k]? = some s := ⟨L[k]'(by rw [(unhide H).len]; exact hkR), List.getElem?_eq_getElem _⟩
      have hri := (unhide H).row k s r hs hr
      have hkL : k < L.length := by rw [(unhide H).len]; exact hkR
      obtain ⟨gr, epr⟩ : ∃ g, pr = some ⟨g, 0, none⟩ := by
        obtain ⟨g, c', hv⟩ := own_open (unhide H).own (by omega)
        injection hv with h1
        exact ⟨g, h1⟩
      subst epr
      have hgr : gr < w.heap.size := ((unhide H).own.lt gr rfl).2
      have hbw := (unhide HW).bel
      have hmem := List.mem_of_getElem? hr
      have ld1 : wo.cell? ⟨gr, k, none⟩ = some (.slice s.p s.n s.c) := by
        refine keep1 (unhide HA).bel (Nat.lt_of_lt_of_le hgr hbw.size) (keep1 hbw hgr ?_)
        have h1 := (unhide H).own.cellAt k (by omega)
        rw [h1]
        have h2 := flat_get kS_ok L k hkL 0 (by decide)
        have h3 : L[k] = s := by rw [List.getElem?_eq_getElem hkL] at hs; exact Option.some.inj hs
        rw [h3] at h2
        simpa [kS] using h2
      obtain ⟨sp, sn, sc⟩ := s
      have hsn : sn = r.length := hri.n
      have hsm : sn ≤ S.length := by rw [hsn]; exact unhide HR r hmem
      have hll : (linesT (rgt S) (wid R) (R.take k)).length ≤ k * (S.length * (M + 2) + 1) := by
        have := lines_len (right := rgt S) (R := R) (unhide HWM) (unhide HR) (R.take k) (fun r hr => List.mem_of_mem_take hr)
        rwa [List.length_take, Nat.min_eq_left (by omega)] at this
      have hk2 : k * (S.length * (M + 2) + 1) + (S.length * (M + 2) + 1) ≤ 140737488355328 := by
        have h1 : (k + 1) * (S.length * (M + 2) + 1) ≤ (R.length + 1) * (S.length * (M + 2) + 1) := Nat.mul_le_mul_right _ (by omega)
        rw [Nat.add_mul, Nat.one_mul] at h1
        exact Nat.le_trans h1 (unhide HTOT)
      have hsM : sn * (M + 2) ≤ S.length * (M + 2) := Nat.mul_le_mul_right _ hsm
      have D2 := hide (arow_any (cw := cg) (⟨ps, cs, some ⟨gr, 0, none⟩, cr, L, (unhide H).gd hbw⟩ : Gr B w1 d S R) (unhide HA) (hri.gd (Gd.of_below (B := 0) hbw (Nat.zero_le _))) hsm (unhide HSL) (unhide HW).lies (wid_ge hmem) (unhide HWM) hM1 (by omega))
      have HLI : Hid ((linesT (rgt S) (wid R) (R.take k) ++ lineT (rgt S) (wid R) r).length + 1 ≤ 140737488355328) := by
        have h1 := line_len (right := rgt S) hmem (unhide HWM) (unhide HR r hmem)
        show _ ≤ _
        rw [List.length_append]
        omega
      have HT := hide (linesT_take (rgt S) (wid R) R k r hr)
      have HK := hide hK
      clear hr hs hri hkL hgr hmem hsn hsm hll hk2 hsM hkR hlt hK hbw
      go_wp2_with fail
      refine (unhide D2).mono ?_
      rintro e w2 ⟨v2, rfl, hB2⟩
      obtain ⟨p2, n2, c2, rfl⟩ : ∃ p n c, v2 = .slice p n c := by obtain ⟨p, c, e⟩ := hB2.slice; exact ⟨_, _, _, e⟩
      obtain ⟨v3, w3, hr3, hB3⟩ := hB2.app [10] (by have := unhide HLI; simpa using this)
      obtain ⟨p3, n3, c3, rfl⟩ : ∃ p n c, v3 = .slice p n c := by obtain ⟨p, c, e⟩ := hB3.slice; exact ⟨_, _, _, e⟩
      have HR3 : Hid ((Builtin.append_ #[196, 9] 196 #[.slice p2 n2 c2, .string ⟨#[10]⟩]).run Tryz.prog w2 = .ok (.slice p3 n3 c3) w3) := hr3
      have HFIN : Hid (By w1 (linesT (rgt S) (wid R) (R.take (k + 1))) (.slice p3 n3 c3) w3) := by
        show By _ _ _ _
        rw [unhide HT]
        exact hB3
      clear hr3 hB3 hB2 D2
      go_wp2_with (at_builtin; refine wpList_append_runS rfl _ _ 196 9 rfl _ _ _ _ rfl rfl (unhide HR3) ?_)
      exact ⟨⟨k + 1, K + 1, by have := unhide HK; omega, by go_num, by have := unhide HK; omega, ⟨_, _, _, rfl⟩, unhide HFIN⟩, by simp [intOf]; omega⟩
    · have hI : ¬ K < (n : Int) := by omega
      have ek : k = R.length := by have := unhide HN; omega
      have hA := unhide HA
      rw [ek, List.take_length] at hA
      have hcv := conv_row hA
      have HF : Hid (TxtOut w (gridT (rgt S) R) (.returned (.string (txB (gridT (rgt S) R)))) wo) := ⟨rfl, (unhide HW).bel.trans (hA.bel.mono (unhide HW).bel.size)⟩
      obtain ⟨G, hG⟩ : ∃ G, G = txB (gridT (rgt S) R) := ⟨_, rfl⟩
      rw [show linesT (rgt S) (wid R) R = gridT (rgt S) R from rfl, ← hG] at hcv
      rw [← hG] at HF
      clear HA hA hK hG ek
      go_wp2_with fail
      go_ret
      exact unhide HF
end Go.Proofs.YtcafhmlpmbkhkaaGreatDoor
/- Texts of things by function values. -/
namespace Go.Proofs.YtcafhmlpmbkhkaaGreatDoor
open Go Go.Shelf Go.ChangeShapes Go.WideShapes Go.ChangeAt Go.RowKit Go.Maps
set_option linter.unusedVariables false
set_option linter.unusedSimpArgs false
/-- a function value that answers the text f of a thing, wherever G holds -/
def FnOK {α : Type} (cv : α → Value) (ok : α → Prop) (G : World → Prop) (fv : Value) (f : α → Tx) : Prop :=
  ∃ g, (∀ args w, (callFunc g args).run Tryz.prog w = .ok (.enter g args) w) ∧
    ((fv = .func (.func g) #[] #[] ∧ ∀ x W, ok x → G W → Calls Tryz.prog g #[cv x] W (TxtOut W (f x))) ∨
    (∃ b, fv = .func (.func g) #[b] #[] ∧ ∀ x W, ok x → G W → Calls Tryz.prog g #[b, cv x] W (TxtOut W (f x))) ∨
    (∃ c, fv = .func (.func g) #[] #[c] ∧ ∀ x W, ok x → G W → Calls Tryz.prog g #[cv x, c] W (TxtOut W (f x))))
/-- columns: function values with what they answer -/
def rowF {α : Type} (FS : List (Value × (α → Tx))) (x : α) : List Tx := FS.map fun p => p.2 x
theorem rowF_len {α : Type} (FS : List (Value × (α → Tx))) (x : α) : (rowF FS x).length = FS.length := by simp [rowF]
/-- the first j texts of a row, the others empty -/
def midF (l : List Tx) (j : Nat) : List Tx := l.take j ++ List.replicate (l.length - j) []
theorem midF_zero (l : List Tx) : midF l 0 = List.replicate l.length [] := by simp [midF]
theorem midF_end (l : List Tx) : midF l l.length = l := by simp [midF]
theorem midF_len (l : List Tx) (j : Nat) (h : j ≤ l.length) : (midF l j).length = l.length := by
  rw [midF, List.length_append, List.length_take, List.length_replicate]
  omega
theorem kT_flat (L : List Tx) : kT.flat L = L.map fun x => .string (txB x) := by
  induction L with
  | nil => rfl
  | cons a L ih => rw [List.map_cons, ← ih]; rfl
theorem midF_step (l : List Tx) (j : Nat) (x : Tx) (h : l[j]? = some x) : (kT.flat (midF l j)).set j (.string (txB x)) = kT.flat (midF l (j + 1)) := by
  have hj : j < l.length := by
    rcases Nat.lt_or_ge j l.length with h1 | h1
    · exact h1
    · rw [List.getElem?_eq_none h1] at h; cases h
  rw [List.getElem?_eq_getElem hj] at h
  have hx : l[j] = x := Option.some.inj h
  rw [kT_flat, kT_flat, ← List.map_set (f := fun x => Value.string (txB x)) (a := x)]
  congr 1
  unfold midF
  rw [List.take_succ_eq_append_getElem hj, hx, show l.length - j = (l.length - (j + 1)) + 1 by omega, List.replicate_succ, List.append_assoc]
  rw [List.set_append_right _ _ (by rw [List.length_take]; omega), List.length_take, Nat.min_eq_left (by omega), Nat.sub_self]
  rfl
/-- a row being filled, in a block of texts of the call's own -/
structure CsAt (w : World) (l : List Tx) (j g : Nat) (wr : World) : Prop where
  own : wr.ownsRow w.heap.size 9 1 (.slice (some ⟨g, 0, none⟩) l.length l.length) l.length (kT.flat (midF l j))
  bel : Below w.heap.size w wr
theorem CsAt.begin (w : World) (l : List Tx) (hl : l.length ≤ 70000000000000) : CsAt w l 0 w.heap.size (w.alloc (.cells (madeCells (Value.string ⟨#[]⟩).cells (l.length * 1)) 9)) := by
  refine ⟨?_, bal (Below.refl _ _) _⟩
  have hs : (madeCells (Value.string ⟨#[]⟩).cells (l.length * 1)).size = l.length * 1 := by rw [size_madeCells]
  have ho := World.ownsRow_lit (base := w.heap.size) (e := 9) (size := 1) w (madeCells (Value.string ⟨#[]⟩).cells (l.length * 1)) l.length (Nat.le_refl _) (by unfold maxLen; omega) hs
  have e : (madeCells (Value.string ⟨#[]⟩).cells (l.length * 1)).toList = kT.flat (midF l 0) := by
    rw [midF_zero, Nat.mul_one]
    show (madeCells #[.string ⟨#[]⟩] l.length).toList = _
    rw [toList_madeCells_one, kT_flat, List.map_replicate]
    rfl
  rwa [e] at ho
theorem CsAt.below {w : World} {l : List Tx} {j g : Nat} {wr W : World} (h : CsAt w l j g wr) (hb : Below wr.heap.size wr W) : CsAt w l j g W := ⟨own_below h.own hb, h.bel.trans (hb.mono h.bel.size)⟩
theorem CsAt.set {w : World} {l : List Tx} {j g : Nat} {wr : World} (h : CsAt w l j g wr) {x : Tx} (hx : l[j]? = some x) : CsAt w l (j + 1) g (wr.setCell ⟨g, j, none⟩ (.string (txB x))) := by
  have hg : w.heap.size ≤ g := (h.own.lt g rfl).1
  refine ⟨?_, h.bel.setCell (p := ⟨g, j, none⟩) hg _⟩
  have := (h.own.stored j (.string (txB x))).1
  rwa [midF_step l j x hx] at this
theorem CsAt.row {w : World} {l : List Tx} {g : Nat} {wr : World} (h : CsAt w l l.length g wr) : RowIs wr ⟨some ⟨g, 0, none⟩, l.length, l.length⟩ l := by
  have ho := h.own
  rw [midF_end] at ho
  refine ⟨rfl, (fun e => by cases e), own_lies kT_ok rfl ho, fun a ha => ?_⟩
  cases ha
  rcases ho.2 with ⟨h1, _⟩ | ⟨g', cap, cur, e1, _, hh, _⟩
  · cases h1
  · injection e1 with e1
    cases e1
    exact ⟨cur, (0, 0), hh⟩
/-- what set leaves -/
def SetOut {α : Type} (B : Nat) (w0 : World) (d : Nat) (S : List Int) (R : List (List Tx)) (FS : List (Value × (α → Tx))) (X : List α) (e : Ending) (w' : World) : Prop := (∃ v, e = .returned v) ∧ Gr B w' d S (R ++ X.map (rowF FS)) ∧ Gd B w0 w'
end Go.Proofs.YtcafhmlpmbkhkaaGreatDoor
/- Amounts of things; sums of lists. -/
namespace Go.Proofs.YtcafhmlpmbkhkaaGreatDoor
open Go Go.Shelf Go.ChangeShapes Go.WideShapes Go.ChangeAt Go.RowKit Go.Maps
set_option linter.unusedVariables false
set_option linter.unusedSimpArgs false
theorem Lies.below' {α : Type} {K : Kd α} {W W' : World} {p : Option Addr} {L : List α} (h : Lies K W p L) (hb : Below W.heap.size W W') : Lies K W' p L := h.below hb
/-- amounts -/
def kN : Kd Int := ⟨fun x => [.int .i64 x], 1, 92, 2, 8⟩
theorem kN_ok : KdOK kN := kd_ok (fun _ => rfl) (by decide) (fun x u hu => by simp [kN] at hu; subst hu; rfl) Tryz.underlying92 (z := .int .i64 0) (by kernel_rfl) rfl (by decide)
theorem kN_flat (L : List Int) : kN.flat L = L.map (Value.int .i64) := by
  induction L with
  | nil => rfl
  | cons a L ih => rw [List.map_cons, ← ih]; rfl
/-- the sum of a list, and the error -/
def sumL (l : List Int) : Int × Int := sumSpec (fun k => l.getD k 0) l.length
/-- the first j amounts of a list, the others 0 -/
def midN (l : List Int) (j : Nat) : List Int := l.take j ++ List.replicate (l.length - j) 0
theorem midN_zero (l : List Int) : midN l 0 = List.replicate l.length 0 := by simp [midN]
theorem midN_end (l : List Int) : midN l l.length = l := by simp [midN]
theorem midN_len (l : List Int) (j : Nat) (h : j ≤ l.length) : (midN l j).length = l.length := by
  rw [midN, List.length_append, List.length_take, List.length_replicate]
  omega
theorem midN_step (l : List Int) (j : Nat) (x : Int) (h : l[j]? = some x) : (kN.flat (midN l j)).set j (.int .i64 x) = kN.flat (midN l (j + 1)) := by
  have hj : j < l.length := by
    rcases Nat.lt_or_ge j l.length with h1 | h1
    · exact h1
    · rw [List.getElem?_eq_none h1] at h; cases h
  rw [List.getElem?_eq_getElem hj] at h
  have hx : l[j] = x := Option.some.inj h
  rw [kN_flat, kN_flat, ← List.map_set (f := Value.int .i64) (a := x)]
  congr 1
  unfold midN
  rw [List.take_succ_eq_append_getElem hj, hx, show l.length - j = (l.length - (j + 1)) + 1 by omega, List.replicate_succ, List.append_assoc]
  rw [List.set_append_right _ _ (by rw [List.length_take]; omega), List.length_take, Nat.min_eq_left (by omega), Nat.sub_self]
  rfl
structure NsAt (w : World) (l : List Int) (j g : Nat) (wr : World) : Prop where
  own : wr.ownsRow w.heap.size 2 1 (.slice (some ⟨g, 0, none⟩) l.length l.length) l.length (kN.flat (midN l j))
  bel : Below w.heap.size w wr
theorem NsAt.begin (w : World) (l : List Int) (hl : l.length ≤ 70000000000000) : NsAt w l 0 w.heap.size (w.alloc (.cells (madeCells (Value.int .i64 0).cells (l.length * 1)) 2)) := by
  refine ⟨?_, bal (Below.refl _ _) _⟩
  have hs : (madeCells (Value.int .i64 0).cells (l.length * 1)).size = l.length * 1 := by rw [size_madeCells]
  have ho := World.ownsRow_lit (base := w.heap.size) (e := 2) (size := 1) w (madeCells (Value.int .i64 0).cells (l.length * 1)) l.length (Nat.le_refl _) (by unfold maxLen; omega) hs
  have e : (madeCells (Value.int .i64 0).cells (l.length * 1)).toList = kN.flat (midN l 0) := by
    rw [midN_zero, Nat.mul_one]
    show (madeCells #[.int .i64 0] l.length).toList = _
    rw [toList_madeCells_one, kN_flat, List.map_replicate]
  rwa [e] at ho
theorem NsAt.below {w : World} {l : List Int} {j g : Nat} {wr W : World} (h : NsAt w l j g wr) (hb : Below wr.heap.size wr W) : NsAt w l j g W := ⟨own_below h.own hb, h.bel.trans (hb.mono h.bel.size)⟩
theorem NsAt.set {w : World} {l : List Int} {j g : Nat} {wr : World} (h : NsAt w l j g wr) {x : Int} (hx : l[j]? = some x) : NsAt w l (j + 1) g (wr.setCell ⟨g, j, none⟩ (.int .i64 x)) := by
  have hg : w.heap.size ≤ g := (h.own.lt g rfl).1
  refine ⟨?_, h.bel.setCell (p := ⟨g, j, none⟩) hg _⟩
  have := (h.own.stored j (.int .i64 x)).1
  rwa [midN_step l j x hx] at this
theorem NsAt.cells {w : World} {l : List Int} {g : Nat} {wr : World} (h : NsAt w l l.length g wr) : ∀ k, k < l.length → wr.cell? ⟨g, 0 + k, none⟩ = some (.int .i64 (l.getD k 0)) := fun k hk => by
  have := h.own.cellAt k (by omega)
  rw [Nat.zero_add, this, midN_end, kN_flat, List.getElem?_map, List.getElem?_eq_getElem hk, List.getD_eq_getElem?_getD, List.getElem?_eq_getElem hk]
  rfl
/-- a function value that answers the amount f of a thing -/
def WnOK {α : Type} (cv : α → Value) (ok : α → Prop) (fv : Value) (f : α → Int) : Prop :=
  ∃ g, (∀ args w, (callFunc g args).run Tryz.prog w = .ok (.enter g args) w) ∧ fv = .func (.func g) #[] #[] ∧ ∀ x W, ok x → Calls Tryz.prog g #[cv x] W fun e w' => e = .returned (.int .i64 (f x)) ∧ Below W.heap.size W w'
/-- what worths hands back -/
def WorOut (w : World) (l : List Int) (e : Ending) (w' : World) : Prop := ∃ g, e = .returned (.slice (some ⟨g, 0, none⟩) l.length l.length) ∧ NsAt w l l.length g w'
/-- what total hands back -/
def TotOut (w : World) (l : List Int) (e : Ending) (w' : World) : Prop := e = .returned (.tuple #[.int .i64 (sumL l).1, .int .i64 (sumL l).2]) ∧ Below w.heap.size w w'
end Go.Proofs.YtcafhmlpmbkhkaaGreatDoor
/- Columns of a trial balance in memory. -/
namespace Go.Proofs.YtcafhmlpmbkhkaaGreatDoor
open Go Go.Shelf Go.ChangeShapes Go.WideShapes Go.ChangeAt Go.RowKit Go.Maps
set_option linter.unusedVariables false
structure Cm where
  acc : ByteArray
  deb : Int
  cre : Int
def Cm.vals (x : Cm) : List Value := [.string x.acc, .int .i64 x.deb, .int .i64 x.cre]
def kM : Kd Cm := ⟨Cm.vals, 3, 22, 31, 32⟩
theorem kM_ok : KdOK kM := kd_ok (fun _ => rfl) (by decide) (fun x u hu => by simp [kM, Cm.vals] at hu; rcases hu with rfl | rfl | rfl <;> rfl) Tryz.underlying22 (z := .agg #[.string ⟨#[]⟩, .int .i64 0, .int .i64 0]) (by kernel_rfl) rfl (by decide)
def ldM (x : Value) : Sem Value := Instr.loadAt 31 x
theorem ldM_is (x : Value) : Instr.loadAt 31 x = ldM x := rfl
theorem sizM : (Tryz.prog.info? 31).map (·.size) = some 3 := by kernel_rfl
def cvM (x : Cm) : Value := .agg #[.string x.acc, .int .i64 x.deb, .int .i64 x.cre]
theorem run_ldM {w : World} {b o : Nat} {x : Cm} (h : w.rangeAt b o x.vals) : (ldM (.pointer (some ⟨b, o, none⟩))).run Tryz.prog w = .ok (cvM x) w :=
  run_loadAt_mid (P := Tryz.prog) w b o 31 x.vals _ h Tryz.underlying31 rfl sizM
/-- the block of a variable that holds one -/
def obM (x : Cm) : Obj := .cells #[.string x.acc, .int .i64 x.deb, .int .i64 x.cre] 31
theorem ld_varM (w : World) (x : Cm) {W : World} (hb : Below (w.alloc (obM x)).heap.size (w.alloc (obM x)) W) : (ldM (.pointer (some ⟨w.heap.size, 0, none⟩))).run Tryz.prog W = .ok (cvM x) W := by
  refine run_ldM fun j u hu => ?_
  rw [Nat.zero_add]
  have h1 : (w.alloc (obM x)).cell? ⟨w.heap.size, j, none⟩ = some u := by
    have := cell_at (i := j) (heap_new w (obM x))
    rw [this]
    simpa [Cm.vals] using hu
  exact keep1 hb (by simp) h1
theorem Lies.ldM {W : World} {p : Option Addr} {L : List Cm} (h : Lies kM W p L) {k : Nat} (hk : k < L.length) : ∃ b o, p = some ⟨b, o, none⟩ ∧ b < W.heap.size ∧ (ldM (.pointer (some ⟨b, o + k * 3, none⟩))).run Tryz.prog W = .ok (cvM L[k]) W := by
  obtain ⟨b, o, e, hb, hr⟩ := h.2 k hk
  exact ⟨b, o, e, hb, run_ldM hr⟩
end Go.Proofs.YtcafhmlpmbkhkaaGreatDoor
