/- stays (16): behind a crash. -/
import Derived.Test.YtpeohbkigkfcgaaKpD
namespace Go.Proofs.Ytpeohbkigkfcgaa
open Go Go.Shelf Go.ChangeShapes Go.WideShapes Go.ChangeAt Go.RowKit Go.Maps Go.Sort
set_option linter.unusedVariables false
theorem perm_pick {α : Type} {a : α} (b : α) : ∀ {l : List α} {j : Nat}, l[j]? = some a → ∃ r, l.Perm (a :: r) ∧ (l.set j b).Perm (b :: r)
  | [], j, h => by simp at h
  | c :: l, 0, h => by
    simp only [List.getElem?_cons_zero, Option.some.injEq] at h
    subst h
    exact ⟨l, List.Perm.refl _, List.Perm.refl _⟩
  | c :: l, j + 1, h => by
    simp only [List.getElem?_cons_succ] at h
    obtain ⟨r, h1, h2⟩ := perm_pick b h
    exact ⟨c :: r, (h1.cons c).trans (List.Perm.swap _ _ _), (h2.cons c).trans (List.Perm.swap _ _ _)⟩
theorem perm_set {α : Type} {l m : List α} (h : l.Perm m) {j i : Nat} {a : α} (hj : l[j]? = some a) (hi : m[i]? = some a) (b : α) : (l.set j b).Perm (m.set i b) := by
  obtain ⟨r, h1, h2⟩ := perm_pick b hj
  obtain ⟨r', h3, h4⟩ := perm_pick b hi
  have h5 : (a :: r).Perm (a :: r') := (h1.symm.trans h).trans h3
  exact (h2.trans ((List.Perm.cons_inv h5).cons b)).trans h4.symm
theorem cutTo_set (ks : List Int) {A : Fs} {i : Nat} {k : List UInt8} {x : Fl} (hO : OrdF A) (h : A[i]? = some (k, x)) : (cutTo ks A i).set i (k, cutF ks i x) = cutTo ks A (i + 1) := by
  have h1 : (cutTo ks A i)[i]? = some (k, x) := by rw [cutTo_get, h]; simp
  rw [← cutTo_step ks hO h, put_set (cutF ks i x) (cutTo_ord ks i hO) h1]
theorem row_le {W : World} {b e s n cap : Nat} {p : Option Addr} {xs : List Value} (h : W.ownsRow b e s (.slice p n cap) n xs) : n ≤ cap := by
  rcases h.2 with ⟨h1, h2⟩ | ⟨g, cap', cur, h1, _, _, h3, _⟩
  · omega
  · injection h1 with _ _ h1
    omega
theorem perm_nodup {l m : Fs} (h : l.Perm m) (hn : (m.map (·.1)).Nodup) : (l.map (·.1)).Nodup := (h.map (·.1)).nodup_iff.2 hn
set_option maxRecDepth 100000 in
/-- a beginning of a row, read as a text -/
theorem conv_take {W : World} {p : Option Addr} {c m : Nat} {bs : List UInt8} (h : W.ownsRow 0 5 1 (.slice p bs.length c) bs.length (bcs bs)) (hm : m ≤ bs.length) : (convert 27 9 (.slice p m c)).run Try.prog W = .ok (.string (txtB (bs.take m))) W := by
  have hl : (bs.take m).length = m := by rw [List.length_take]; omega
  cases p with
  | none =>
    rcases h.2 with ⟨h1, h2⟩ | ⟨g, cap', cur, h1, _⟩
    · injection h1 with _ _ h1c
      have hm0 : m = 0 := by omega
      subst hm0 h1c
      have hb : bs = [] := List.eq_nil_of_length_eq_zero h2
      subst hb
      exact conv_row (bs := []) (World.ownsRow_nil W 0 5 1)
    · cases h1
  | some a =>
    have h2 := conv_row (cut_row h hm (by simp))
    rw [hl] at h2
    exact h2
set_option maxRecDepth 100000 in
set_option maxHeartbeats 4000000 in
theorem stays_ok {w : World} {U : Nat → Prop} {v vf : Value} {l : Fs} (h : BookAt w U v l) {cap fu : Int} {dn : Bool} {A : Fs} (ks : List Int) (hI : Inv ⟨cap, A, fu, dn⟩) (hp : l.Perm A) {b e : Nat} (hf : FilesRow w b e vf (cutTo ks A A.length)) (he : e ≤ w.heap.size) (hub : ∀ q, U q → q < b) :
    Calls Try.prog 16 #[v, .agg #[.int .i64 cap, vf, .int .i64 (-1), .bool false]] w fun e w' => e = .returned (.bool true) ∧ ∃ l' U', BookAt w' U' v l' ∧ l'.Perm (cutTo ks A A.length) ∧ Sep w w' U U' := by
  obtain ⟨pa, ca, rfl⟩ := h.form
  obtain ⟨pf, cf, rfl⟩ := hf.form
  rw [cutTo_len] at hf ⊢
  obtain ⟨L, hL⟩ : ∃ L, L = A.length := ⟨_, rfl⟩
  have hlL : l.length = L := by rw [hL]; exact hp.length_eq
  have hm : L ≤ 64 := by rw [hL]; exact hI.many
  rw [hlL] at h ⊢
  rw [← hL] at hf ⊢
  obtain ⟨w1, hw1⟩ : ∃ w1, w1 = w.alloc (.cells #[.int .i64 cap, .slice pf L cf, .int .i64 (-1), .bool false] 31) := ⟨_, rfl⟩
  have b1 : Below w.heap.size w w1 := by rw [hw1]; exact bal (Below.refl _ _) _
  have z1 : w1.heap.size = w.heap.size + 1 := by rw [hw1]; simp
  have k1 : w1.cell? ⟨w.heap.size, 1, none⟩ = some (.slice pf L cf) := by rw [hw1, World.cell?_alloc_mark]; rfl
  have HB := hide (h.below b1)
  have HF := hide (hf.below he b1)
  have UW : Hid (¬ U w.heap.size) := fun h' => by have := h.lt _ h'; omega
  have H1 := hide hw1; have B1 := hide b1; have HL := hide hL; have HP := hide hp; have HI := hide hI; have HUB := hide hub
  clear hw1 b1 h hf hL hp hI hub hlL
  go_enter Try.func16, Try.ntmps16
  go_wp2_with fail
  rw [← unhide H1]
  go_loopw [5] (fun u wr => ∃ (i : Nat) (l' : Fs) (U' : Nat → Prop), i ≤ L ∧ u = .int .i64 (i : Int) ∧ BookAt wr U' (.slice pa L ca) l' ∧ l'.Perm (cutTo ks A i) ∧ Sep w1 wr U U') (fun u _ => L - (intOf u).toNat)
  case atStart => exact ⟨0, l, U, Nat.zero_le _, rfl, unhide HB, by rw [cutTo_zero]; exact unhide HP, Sep.refl _ _⟩
  case round =>
    obtain ⟨i, l', U', hi, rfl, hbk, hpm, hsep⟩ := hrel
    have HBK := hide hbk; have HPM := hide hpm; have HSEP := hide hsep
    have zr := hsep.size
    have s1 := sep_ne hsep k1 (unhide UW)
    by_cases hlt : i < L
    · have hkx : ∃ k x, A[i]? = some (k, x) := by
        have : i < A.length := by rw [← unhide HL]; exact hlt
        exact ⟨_, _, List.getElem?_eq_getElem this⟩
      obtain ⟨k, x, hkx⟩ := hkx
      have hmem := List.mem_of_getElem? hkx
      have hsy : x.sy ≤ x.bs.length := (unhide HI).sy _ hmem
      have hxl : x.bs.length ≤ 1048576 := by
        have h1 := get_le_tot (get_at (unhide HI).ord hkx)
        have h2 := (unhide HI).tot
        have h3 := (unhide HI).cap1
        simp only at h1 h2 h3
        omega
      have hy1 : (cutTo ks A L)[i]? = some (k, cutF ks i x) := by rw [cutTo_get, hkx]; simp [hlt]
      have hyl := cut_len ks i hsy
      have hle := left_le ks i hsy
      have hge : x.sy ≤ leftC ks i x := by unfold leftC; split <;> omega
      have hset := cutTo_set ks (unhide HI).ord hkx
      obtain ⟨y, hyd⟩ : ∃ y, y = cutF ks i x := ⟨_, rfl⟩
      have hybs : y.bs = x.bs.take y.bs.length := by rw [hyd, hyl]; rfl
      have hysy : y.sy = y.bs.length := by rw [hyd, hyl]; rfl
      rw [← hyd] at hy1 hset hyl
      rw [← hyl] at hle hge
      have hin : (cutTo ks A i)[i]? = some (k, x) := by rw [cutTo_get, hkx]; simp
      have hnd : (l'.map (·.1)).Nodup := perm_nodup hpm (ord_nodup (cutTo_ord ks i (unhide HI).ord))
      obtain ⟨j, hj, hidx⟩ := idx_of (l := l') (x := x) 0 ((hpm.mem_iff).2 (List.mem_of_getElem? hin)) hnd
      rw [Nat.zero_add] at hidx
      have hjL : j < L := by
        have h1 := (List.getElem?_eq_some_iff.1 hj).1
        have h2 := hpm.length_eq
        rw [cutTo_len] at h2
        have := unhide HL
        omega
      have hps := perm_set hpm hj hin (k, y)
      rw [hset] at hps
      have HPS := hide hps
      obtain ⟨gf, xf, p1, c1, b1', ev, lf, a0, a1, a2, ra⟩ := ((unhide HF).sep (by omega) hsep (unhide HUB)).at hy1
      injection ev with ev eL ev3
      subst ev ev3
      clear eL
      obtain ⟨s, hs, hsk⟩ : ∃ s : ByteArray, encStr k = .string s ∧ s.data.toList = k := ⟨_, rfl, rfl⟩
      rw [hs] at a0
      rw [hysy] at a2
      obtain ⟨w3, hw3⟩ : ∃ w3, w3 = wr.alloc (.cells #[.string s, .slice p1 y.bs.length c1, .int .i64 (y.bs.length : Int)] 70) := ⟨_, rfl⟩
      have b3 : Below wr.heap.size wr w3 := by rw [hw3]; exact bal (Below.refl _ _) _
      have z3 : w3.heap.size = wr.heap.size + 1 := by rw [hw3]; simp
      have f0 : w3.cell? ⟨wr.heap.size, 0, none⟩ = some (.string s) := by rw [hw3, World.cell?_alloc_mark]; rfl
      have f1 : w3.cell? ⟨wr.heap.size, 1, none⟩ = some (.slice p1 y.bs.length c1) := by rw [hw3, World.cell?_alloc_mark]; rfl
      have f2 : w3.cell? ⟨wr.heap.size, 2, none⟩ = some (.int .i64 (y.bs.length : Int)) := by rw [hw3, World.cell?_alloc_mark]; rfl
      have hbk3 := hbk.below b3
      have HFIND := find18_ok hbk3 (by have h2 := hpm.length_eq; rw [cutTo_len] at h2; have := unhide HL; omega) s
      rw [hsk, hidx] at HFIND
      have HFIND := hide HFIND
      have hra3 := own_below ra b3
      have hv3 : BookAt w3 U' (.slice pa l'.length ca) l' := by
        have h2 := hpm.length_eq
        rw [cutTo_len, ← unhide HL] at h2
        rw [h2]
        exact hbk3
      obtain ⟨g, ca', pl, cl, eg, hgU, hg, n0, n1, n2, nf, rl, rlU⟩ := hv3.at hj
      injection eg with eg _ eg3
      subst eg eg3
      obtain ⟨Tt, hT⟩ : ∃ Tt, Tt = txtB y.bs := ⟨_, rfl⟩
      have cv1 : ∀ W : World, W.heap = w3.heap → (convert 27 9 (.slice p1 y.bs.length c1)).run Try.prog W = .ok (.string Tt) W := fun W hW => by rw [hT]; exact conv_row (row_far hra3 (fun q _ => by rw [hW]))
      have cv2 : ∀ W : World, W.heap = w3.heap → (convert 27 9 (.slice pl y.bs.length cl)).run Try.prog W = .ok (.string Tt) W := fun W hW => by
        have := conv_take (row_far rl (fun q _ => by rw [hW]) : W.ownsRow 0 5 1 _ _ _) hle
        rw [← hybs] at this
        rw [hT]
        exact this
      have cv1n := fun n => cv1 (w3.drewN n) rfl
      have cv2n := fun n => cv2 (w3.drewN n) rfl
      have cv1d := cv1 w3.drew rfl
      have cv2d := cv2 w3.drew rfl
      have hcap := row_le rl
      have HBK3 := hide hv3; have HJ := hide hj; have HRA3 := hide hra3; have HY := hide (And.intro hyl hysy)
      have nf1 := nf (j * 3 + 1)
      have nf2 := nf (j * 3 + 2)
      obtain ⟨yl, hyld⟩ : ∃ yl, yl = y.bs.length := ⟨_, rfl⟩
      obtain ⟨xl, hxld⟩ : ∃ xl, xl = x.bs.length := ⟨_, rfl⟩
      obtain ⟨xs, hxsd⟩ : ∃ xs : Int, xs = (x.sy : Int) := ⟨_, rfl⟩
      have g0 : decide ((j : Int) < 0) = false := by simp
      have g1 : decide ((xl : Int) < (yl : Int)) = false := decide_eq_false (by omega)
      have g1n : decide (xl < yl) = false := decide_eq_false (by omega)
      have g2 : decide ((yl : Int) < xs) = false := decide_eq_false (by omega)
      have i0 : (0 : Int) ≤ (i : Int) := by omega
      have i1 : (i : Int) < (L : Int) := by omega
      have j0 : (0 : Int) ≤ (j : Int) := by omega
      have j1 : (j : Int) < (L : Int) := by omega
      have y0 : (0 : Int) ≤ (yl : Int) := by omega
      have y1 : (yl : Int) ≤ (cl : Int) := by omega
      rw [← hyld] at a1 a2 f1 f2 cv1n cv2n cv1d cv2d hw3
      rw [← hxld] at n1
      rw [← hxsd] at n2
      have hgl : g < wr.heap.size := hbk.lt g hgU
      have HYB : Hid (y.bs.length ≤ 1048576) := Nat.le_trans hle hxl
      have HBW := hide b3
      have HU : Hid (∀ n, BytesAt ((w3.drewN n).alloc (.cells #[] 5)) (.slice p1 yl c1) y.bs) := fun n => by
        rw [hyld]
        exact ((BytesAt.of_row hra3).far (W' := w3.drewN n) (fun _ _ => rfl)).below (bal (Below.refl _ _) _)
      have f1a : ∀ n o, ((w3.drewN n).alloc o).cell? ⟨wr.heap.size, 1, none⟩ = some (.slice p1 yl c1) := fun n o => keep1 (W := w3.drewN n) (bal (Below.refl (w3.drewN n).heap.size (w3.drewN n)) o) (show wr.heap.size < w3.heap.size by omega) f1
      have HB0 : Hid (∀ n, Below w3.heap.size w3 ((w3.drewN n).alloc (.cells #[] 5))) := fun n => ⟨rfl, rfl, rfl, by simp, fun k hk => Below.heap_alloc (w3.drewN n) _ k hk⟩
      have H5 : Hid (∀ w5, Below w3.heap.size w3 w5 → (w5.cell? ⟨g, j * 3 + 1, none⟩ = some (.slice pl xl cl) ∧ w5.frozen? ⟨g, j * 3 + 1, none⟩ = false ∧ w5.cell? ⟨g, j * 3 + 2, none⟩ = some (.int .i64 xs) ∧ w5.frozen? ⟨g, j * 3 + 2, none⟩ = false ∧ w5.cell? ⟨wr.heap.size, 2, none⟩ = some (.int .i64 (yl : Int)) ∧ ∀ u, (w5.setCell ⟨g, j * 3 + 1, none⟩ u).cell? ⟨wr.heap.size, 2, none⟩ = some (.int .i64 (yl : Int)))) := fun w5 hb =>
        ⟨keep1 hb hg n1, keepF hb hg nf1, keep1 hb hg n2, keepF hb hg nf2, keep1 hb (by omega) f2, fun u => (World.cell?_of_block (a := ⟨wr.heap.size, 2, none⟩) (Below.heap_setCell _ ⟨g, j * 3 + 1, none⟩ _ _ (by show wr.heap.size ≠ g; omega))).trans (keep1 hb (by omega) f2)⟩
      have H3 := hide hw3
      have hjl : l'.length = L := by
        have h2 := hpm.length_eq
        rw [cutTo_len, ← unhide HL] at h2
        exact h2
      have HJL := hide hjl
      have HYL := hide hyld
      clear hbk hpm hsep hmem hkx hy1 hyl hle hge hset hyd hybs hysy hin hnd hidx hps ra hw3 hbk3 hra3 hv3 rl cv1 cv2 hT hj hs hsk hxld hxsd hyld hjl nf rlU hsy hcap b3
      have Z3 := hide z3
      clear z3
      go_wp2_with fail
      rw [← unhide H3]
      refine (unhide HFIND).mono ?_
      rintro e w4 ⟨rfl, hw4⟩
      rw [hw4]
      clear hw4 w4
      go_wp2_with fail
      go_quiet (fail)
      go_wp2_with (first | (at_builtin; refine wpList_append_b rfl _ _ rfl (.slice (some ⟨w3.heap.size, 0, none⟩) 0 0) [] rfl (row_none (w3.drewN nq)) (.slice p1 yl c1) y.bs rfl (unhide HU nq) (by have := unhide HYB; simp; omega) y.bs rfl ?_; intro p5 c5 w5 r5 r5' hg5; have R5 := hide r5; have hab := app_below (B := w3.heap.size) hg5 (fun q hq => by simp only [Value.ownBlock, Option.some.injEq] at hq; omega) (by simp); have O5 := hide hab.2; have HB5 : Hid (Below w3.heap.size w3 w5) := (unhide HB0 nq).trans hab.1; obtain ⟨t1, tf1, t2, tf2, u2, u2s⟩ := unhide H5 w5 (unhide HB5); clear r5 r5' hg5 hab))
      have z3 := unhide Z3
      have hb5 := (unhide HBK3).below (unhide HB5)
      have hbd := hb5.data (unhide HJ) (bs := y.bs) (unhide R5) (U' := fun q => U' q ∨ (Value.slice p5 y.bs.length c5).ownBlock = some q) (fun q h => .inl h) (fun q hq => .inr hq) (fun q hq => hq.elim (hb5.lt q) (fun h' => ((unhide R5).lt q h').2))
      have hjl' : (l'.set j (k, (⟨y.bs, x.sy⟩ : Fl)))[j]? = some (k, ⟨y.bs, x.sy⟩) := by
        rw [List.getElem?_set_self (List.getElem?_eq_some_iff.1 (unhide HJ)).1]
      rw [show l'.length = (l'.set j (k, (⟨y.bs, x.sy⟩ : Fl))).length by rw [List.length_set]] at hbd
      have hbs := hbd.sync hjl' y.bs.length
      rw [List.set_set, List.length_set, unhide HJL] at hbs
      have hyy : (k, (⟨y.bs, y.bs.length⟩ : Fl)) = (k, y) := by rw [← (unhide HY).2]
      rw [hyy] at hbs
      have hsw : Sep w1 w5 U U' := (unhide HSEP).trans (Sep.of_below U' ((unhide HBW).trans ((unhide HB5).mono (by omega))))
      have hs1 := hsw.trans ((Sep.set (j := j * 3 + 1) (u := .slice p5 y.bs.length c5) hgU).trans (Sep.set (j := j * 3 + 2) (u := .int .i64 (y.bs.length : Int)) hgU))
      rw [unhide HYL]
      exact ⟨⟨i + 1, l'.set j (k, y), fun q => U' q ∨ (Value.slice p5 y.bs.length c5).ownBlock = some q, by omega, by go_num, hbs, unhide HPS, ⟨hs1.os, hs1.tape, hs1.output, hs1.size, hs1.block, fun q hq => hq.elim (hs1.new q) (fun h' => .inr (by have := unhide O5 q h'; omega))⟩⟩, by simp [intOf]; omega⟩
    · have j1 : ¬ (i : Int) < (L : Int) := by omega
      have hiL : i = L := by omega
      subst hiL
      clear hbk hpm hsep
      go_wp2_with fail
      go_ret
      exact ⟨rfl, l', U', unhide HBK, unhide HPM, (Sep.of_below U (unhide B1)).trans (unhide HSEP)⟩
end Go.Proofs.Ytpeohbkigkfcgaa
