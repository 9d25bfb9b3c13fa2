import Derived.Test.YtcafhmlpmbkhkaaGreatDoorQ08
import Derived.Test.YtcafhmlpmbkhkaaGreatDoorW19
namespace Go.Proofs.YtcafhmlpmbkhkaaGreatDoor
open Go Go.Shelf Go.ChangeShapes Go.WideShapes Go.ChangeAt Go.RowKit Go.Maps
set_option linter.unusedVariables false
set_option linter.unusedSimpArgs false
theorem own_kept {W W' : World} {B e s n bk t : Nat} {v : Value} {xs : List Value} {ys : Array Value} {f : Nat × Nat} (h : W.ownsRow B e s v n xs) (hb : W.heap[bk]? = some (Obj.cells ys t f)) (ht : t ≠ e) (hg : W.grownBy W' (some bk)) : W'.ownsRow B e s v n xs := h.kept hg (.inr (not_own h hb ht))
theorem RowIs.kept2 {W W' : World} {s : Sl} {r : List Tx} (h : RowIs W s r) {bk t : Nat} {ys : Array Value} {f : Nat × Nat} (hb : W.heap[bk]? = some (Obj.cells ys t f)) (ht : t ≠ 9) (hg : W.grownBy W' (some bk)) : RowIs W' s r := by
  have hk : ∀ a, s.p = some a → W'.heap[a.block]? = W.heap[a.block]? := fun a ha => by
    obtain ⟨ys', f', hh⟩ := h.blk a ha
    refine hg.block _ (Array.getElem?_eq_some_iff.1 hh).1 (fun e => ?_)
    have e2 : a.block = bk := Option.some.inj e
    rw [e2, hb] at hh
    injection hh with hh
    injection hh with _ h5 _
    exact ht h5
  refine ⟨h.n, h.c, ?_, fun a ha => ?_⟩
  · cases hp : s.p with
    | none => have := h.lies; rw [hp] at this; rw [this.1 rfl]; exact Lies.nil _ _
    | some a =>
      refine ⟨(fun e => by cases e), fun k hk' => ?_⟩
      have hl := h.lies
      rw [hp] at hl
      obtain ⟨b, off, e, hlt, hr⟩ := hl.2 k hk'
      have hkk := hk a hp
      cases e
      exact ⟨b, off, rfl, Nat.lt_of_lt_of_le hlt hg.size, fun j u hu => (World.cell?_of_block (a := ⟨b, off + k * kT.s + j, none⟩) hkk).trans (hr j u hu)⟩
  · obtain ⟨ys', f', hh⟩ := h.blk a ha
    exact ⟨ys', f', (hk a ha).trans hh⟩
theorem Rl.kept2 {B : Nat} {W W' : World} {v : Value} {R : List (List Tx)} (h : Rl B W v R) {bk t : Nat} {ys : Array Value} {f : Nat × Nat} (hb : W.heap[bk]? = some (Obj.cells ys t f)) (ht : t ≠ 9) (ht2 : t ≠ 93) (hg : W.grownBy W' (some bk)) : Rl B W' v R := by
  obtain ⟨L, h⟩ := h
  exact ⟨L, own_kept h.own hb ht2 hg, h.len, fun k s r hs hr => (h.row k s r hs hr).kept2 hb ht hg⟩
def ovr (o : Bool) (l : List Int) : Bool := if (sumL l).2 = 0 then o else true
def bkK (pa : Option Addr) (na ca : Nat) (pr : Option Addr) (nr cr : Nat) (fr tt : Int) (kb : Nat) (ov : Bool) (W : World) : Prop := W.heap[kb]? = some (bkO pa na ca pr nr cr fr tt ov)
def RsOut (w : World) (pa : Option Addr) (na ca : Nat) (pr : Option Addr) (nr cr : Nat) (fr tt : Int) (kb : Nat) (ov : Bool) (l : List Int) (e : Ending) (w' : World) : Prop :=
  e = .returned (.int .i64 (sumL l).1) ∧ bkK pa na ca pr nr cr fr tt kb (ovr ov l) w' ∧ w.grownBy w' (some kb)
set_option maxRecDepth 100000 in
set_option maxHeartbeats 4000000 in
theorem rsum_book {w : World} {pa : Option Addr} {na ca : Nat} {pr : Option Addr} {nr crr : Nat} {fr tt : Int} {kb : Nat} {ov : Bool} (hbk : bkK pa na ca pr nr crr fr tt kb ov w) {B : Nat} {p : Option Addr} {n c : Nat} {l : List Int} (hl : l.length = n) (h : w.ownsRow B 2 1 (.slice p n c) n (kN.flat l)) (hz : ∀ z ∈ l, isA z) (hn : n ≤ 9223372036854775807) :
    Calls Tryz.prog 180 #[.pointer (some ⟨kb, 0, none⟩), .slice p n c] w (RsOut w pa na ca pr nr crr fr tt kb ov l) := by
  have D := rsumL (w := w) hl h (fun z hz' => by have := hz z hz'; unfold isA at this; omega) hn
  unfold TotOut at D
  have D := hide D
  have HBK : Hid (w.heap[kb]? = some (bkO pa na ca pr nr crr fr tt ov)) := hbk
  clear hl h hz hbk
  go_enter Tryz.func180, Tryz.ntmps180
  go_wp2_with fail
  refine (unhide D).mono ?_
  rintro e w1 ⟨rfl, hb1⟩
  have hh1 := (hb1.block _ (Array.getElem?_eq_some_iff.1 (unhide HBK)).1).trans (unhide HBK)
  obtain ⟨s1, hs1⟩ : ∃ z, z = (sumL l).1 := ⟨_, rfl⟩
  obtain ⟨s2, hs2⟩ : ∃ z, z = (sumL l).2 := ⟨_, rfl⟩
  rw [← hs1, ← hs2]
  have hg1 : w.grownBy w1 (some kb) := grown_below _ hb1
  by_cases h0 : s2 = 0
  · have HE : Hid (RsOut w pa na ca pr nr crr fr tt kb ov l (.returned (.int .i64 s1)) w1) := by
      refine ⟨by rw [hs1], ?_, hg1⟩
      unfold ovr
      rw [← hs2, if_pos h0]
      exact hh1
    subst h0
    clear hs1 hs2 hh1 hb1 hg1 D
    go_wp2_with fail
    go_ret
    exact unhide HE
  · have hb : (s2 != 0) = true := by rw [bne_iff_ne]; exact h0
    have c4 : w1.cell? ⟨kb, 4, none⟩ = some (.bool ov) := by rw [cell_at hh1]; rfl
    have f4 : w1.frozen? ⟨kb, 4, none⟩ = false := by unfold bkO at hh1; exact froz_at hh1
    have HE : Hid (RsOut w pa na ca pr nr crr fr tt kb ov l (.returned (.int .i64 s1)) (w1.setCell ⟨kb, 4, none⟩ (.bool true))) := by
      refine ⟨by rw [hs1], ?_, hg1.trans (grown_set _ _ _ _)⟩
      unfold ovr bkK
      rw [← hs2, if_neg h0]
      unfold bkO at hh1 ⊢
      simp [World.setCell, Array.getElem?_modify, hh1]
    clear hs1 hs2 hh1 hb1 hg1 D h0
    go_wp2_with fail
    go_ret
    exact unhide HE
def LinOut (w : World) (pa : Option Addr) (na ca : Nat) (pr : Option Addr) (nr cr : Nat) (fr tt : Int) (kb : Nat) (ov : Bool) (lab : ByteArray) (l : List Int) (d : Nat) (e : Ending) (w' : World) : Prop :=
  ∃ g, e = .returned (.slice (some ⟨g, 0, none⟩) 2 2) ∧ RowIs w' ⟨some ⟨g, 0, none⟩, 2, 2⟩ [lab.data.toList, txt (sumL l).1 d] ∧ bkK pa na ca pr nr cr fr tt kb (ovr ov l) w' ∧ w.grownBy w' (some kb)
set_option maxRecDepth 100000 in
set_option maxHeartbeats 4000000 in
theorem rline_any {w : World} {pa : Option Addr} {na ca : Nat} {pr : Option Addr} {nr crr : Nat} {fr tt : Int} {kb : Nat} {ov : Bool} (hbk : bkK pa na ca pr nr crr fr tt kb ov w) (lab : ByteArray) {B : Nat} {p : Option Addr} {n c : Nat} {l : List Int} (hl : l.length = n) (h : w.ownsRow B 2 1 (.slice p n c) n (kN.flat l)) (hz : ∀ z ∈ l, isA z) (hn : n ≤ 9223372036854775807) (d : Nat) (hd : d ≤ 6) :
    Calls Tryz.prog 111 #[.pointer (some ⟨kb, 0, none⟩), .string lab, .slice p n c, .int .i64 (d : Int)] w (LinOut w pa na ca pr nr crr fr tt kb ov lab l d) := by
  have D := hide (rsum_book hbk hl h hz hn)
  have hs : isA (sumL l).1 := sumL_isA l
  clear hl h hz hbk
  go_enter Tryz.func111, Tryz.ntmps111
  go_wp2_with fail
  refine (unhide D).mono ?_
  rintro e w1 ⟨rfl, hk1, hg1⟩
  obtain ⟨s1, hs1⟩ : ∃ z, z = (sumL l).1 := ⟨_, rfl⟩
  rw [← hs1] at hs ⊢
  have D2 := hide (rmoney_any s1 d hs hd w1)
  have HK1 := hide hk1; have HG1 := hide hg1; have HS1 := hide hs1
  clear hk1 hg1 hs hs1 D
  go_wp2_with fail
  refine (unhide D2).mono ?_
  rintro e w2 ⟨rfl, hb2⟩
  obtain ⟨w3, hw3⟩ : ∃ W, W = w2.alloc (.cells #[.string lab, .string (txB (txt s1 d))] 9) := ⟨_, rfl⟩
  have b23 : Below w2.heap.size w2 w3 := by rw [hw3]; exact bal (Below.refl _ _) _
  have hb13 : Below w1.heap.size w1 w3 := hb2.trans (b23.mono hb2.size)
  have hr : RowIs w3 ⟨some ⟨w2.heap.size, 0, none⟩, 2, 2⟩ [lab.data.toList, txt s1 d] := by rw [hw3]; exact litL w2 [lab.data.toList, txt s1 d]
  have HE : Hid (LinOut w pa na ca pr nr crr fr tt kb ov lab l d (.returned (.slice (some ⟨w2.heap.size, 0, none⟩) 2 2)) w3) := by
    refine ⟨_, rfl, by rw [← unhide HS1]; exact hr, ?_, (unhide HG1).trans (grown_below _ hb13)⟩
    have h1 := unhide HK1
    unfold bkK at h1 ⊢
    exact (hb13.block _ (Array.getElem?_eq_some_iff.1 h1).1).trans h1
  have hw3' := hw3.symm
  clear hw3 b23 hb13 hr hb2 D2
  go_wp2_with fail
  go_ret
  exact unhide HE
theorem sidB_two : rgB [false, true] = rgt [0, 1] := by
  funext c
  unfold rgB rgt
  match c with
  | 0 => rfl
  | 1 => rfl
  | n + 2 => simp [List.getD]
def shtA (ov : Bool) (hd : Tx) (R : List (List Tx)) : Tx × Int := if ov = true then ([], 11) else (hd ++ [10] ++ gridT (rgt [0, 1]) R, 0)
set_option maxRecDepth 100000 in
set_option maxHeartbeats 4000000 in
theorem rsheet_any {w : World} {pa : Option Addr} {na ca : Nat} {pr : Option Addr} {nr crr : Nat} {fr tt : Int} {kb : Nat} {ov : Bool} (hbk : bkK pa na ca pr nr crr fr tt kb ov w) (hdr : Tx) (hh : hdr.length ≤ 1000) {B : Nat} {p : Option Addr} {n c : Nat} {R : List (List Tx)} (hR : R.length = n) (h : Rl B w (.slice p n c) R) (hn : n ≤ 1048576) (h2 : ∀ r ∈ R, r.length ≤ 2) (hc : ∀ r ∈ R, ∀ x ∈ r, x.length ≤ 200) :
    Calls Tryz.prog 112 #[.pointer (some ⟨kb, 0, none⟩), .string (txB hdr), .slice p n c] w (TriOut w (shtA ov hdr R)) := by
  have c4 : w.cell? ⟨kb, 4, none⟩ = some (.bool ov) := by unfold bkK at hbk; rw [cell_at hbk]; rfl
  have HB : Hid (Below w.heap.size w w) := Below.refl _ _
  cases ov with
  | true =>
    clear hbk h
    go_enter Tryz.func112, Tryz.ntmps112
    go_wp2_with fail
    go_ret2
    exact ⟨rfl, unhide HB⟩
  | false =>
    obtain ⟨w1, hw1⟩ : ∃ W, W = w.alloc (.cells #[.bool false, .bool true] 4) := ⟨_, rfl⟩
    have b1 : Below w.heap.size w w1 := by rw [hw1]; exact bal (Below.refl _ _) _
    have hh1 : w1.heap[w.heap.size]? = some (.cells #[.bool false, .bool true] 4) := by rw [hw1]; exact heap_new _ _
    have D := rgrid_any (w := w1) (cr := c) (n := n) (gr := w.heap.size) (nb := 2) (cb := 2) hR.symm (h.below b1).rd (B := [false, true]) rfl (fun c q hq => by
      have hc2 : c = 0 ∨ c = 1 := by
        have := (List.getElem?_eq_some_iff.1 hq).1
        simp at this
        omega
      rcases hc2 with rfl | rfl <;> (cases hq; rw [cell_at hh1]; rfl)) (N := 2) h2 (by decide) (by decide) (M := 200) hc (by decide) (by rw [hR]; show _ * (2 * _ + 1) ≤ _; omega) (by omega)
    obtain ⟨T, hT⟩ : ∃ T, T = txB (gridT (rgB [false, true]) R) := ⟨_, rfl⟩
    have hTs : T.size ≤ 100000000000 := by
      rw [hT, txB_len]
      have := grid_len (rgB [false, true]) (N := 2) h2 (M := 200) hc
      rw [hR] at this
      omega
    unfold GridOut at D
    rw [← hT] at D
    have D := hide D
    obtain ⟨H, hH⟩ : ∃ H, H = txB hdr := ⟨_, rfl⟩
    have hHs : H.size ≤ 1000 := by rw [hH, txB_len]; exact hh
    rw [← hH]
    have k1 : ¬ 9223372036854775807 < H.size + 1 := by omega
    have k2 : ¬ 9223372036854775807 < H.size + 1 + T.size := by omega
    have hw1' := hw1.symm
    have HB1 := hide b1; have HT := hide hT; have HH := hide hH
    clear hbk h hw1 b1 hh1 hT hH hTs hHs hc h2
    go_enter Tryz.func112, Tryz.ntmps112
    go_wp2_with fail
    refine (unhide D).mono ?_
    rintro e w2 ⟨rfl, hw⟩
    rw [hw]
    go_wp2_with fail
    go_ret2
    refine ⟨?_, unhide HB1⟩
    have e : H ++ ⟨#[10]⟩ ++ T = txB (shtA false hdr R).1 := by
      unfold shtA
      rw [unhide HH, unhide HT, sidB_two]
      simp only [Bool.false_eq_true, if_false]
      rw [← txB_app, ← txB_app]
      rfl
    show _ = Ending.returned (.tuple #[.string (txB (shtA false hdr R).1), .int .i64 0])
    rw [← e]
    rfl
end Go.Proofs.YtcafhmlpmbkhkaaGreatDoor
namespace Go.Proofs.YtcafhmlpmbkhkaaGreatDoor
open Go Go.Shelf Go.ChangeShapes Go.WideShapes Go.ChangeAt Go.RowKit Go.Maps
set_option linter.unusedVariables false
set_option linter.unusedSimpArgs false
def rbR (G : Ch.Ac → List Int) (ty : Int) (d : Nat) : List Ch.Ac → List (List Tx)
  | [] => []
  | a :: A => if a.ty = ty ∧ (sumL (G a)).1 ≠ 0 then [[32, 32] ++ a.nm, txt (sumL (G a)).1 d] :: rbR G ty d A else rbR G ty d A
def rbO (G : Ch.Ac → List Int) (ty : Int) : Bool → List Ch.Ac → Bool
  | o, [] => o
  | o, a :: A => if a.ty = ty then rbO G ty (ovr o (G a)) A else rbO G ty o A
theorem rbR_app (G : Ch.Ac → List Int) (ty : Int) (d : Nat) : ∀ A B : List Ch.Ac, rbR G ty d (A ++ B) = rbR G ty d A ++ rbR G ty d B
  | [], B => rfl
  | a :: A, B => by
    rw [List.cons_append, rbR, rbR, rbR_app G ty d A B]
    split <;> rfl
theorem rbO_app (G : Ch.Ac → List Int) (ty : Int) : ∀ (A B : List Ch.Ac) (o : Bool), rbO G ty o (A ++ B) = rbO G ty (rbO G ty o A) B
  | [], B, o => rfl
  | a :: A, B, o => by
    rw [List.cons_append, rbO, rbO]
    split <;> exact rbO_app G ty A B _
theorem rbR_len (G : Ch.Ac → List Int) (ty : Int) (d : Nat) : ∀ A : List Ch.Ac, (rbR G ty d A).length ≤ A.length
  | [] => Nat.le_refl _
  | a :: A => by
    have := rbR_len G ty d A
    rw [rbR]
    split <;> simp <;> omega
structure RbAt (w : World) (pa : Option Addr) (na ca : Nat) (pr : Option Addr) (nr crr : Nat) (fr tt : Int) (kb : Nat) (ov : Bool) (title : ByteArray) (G : Ch.Ac → List Int) (ty : Int) (d : Nat) (A : List Ch.Ac) (lv : Value) (W : World) : Prop where
  bk : bkK pa na ca pr nr crr fr tt kb (rbO G ty ov A) W
  rl : Rl w.heap.size W lv ([[title.data.toList]] ++ rbR G ty d A)
  grw : w.grownBy W (some kb)
def RbOut (w : World) (pa : Option Addr) (na ca : Nat) (pr : Option Addr) (nr crr : Nat) (fr tt : Int) (kb : Nat) (ov : Bool) (title : ByteArray) (G : Ch.Ac → List Int) (ty : Int) (d : Nat) (A : List Ch.Ac) (e : Ending) (w' : World) : Prop :=
  ∃ p c, e = .returned (.slice p ((rbR G ty d A).length + 1) c) ∧ RbAt w pa na ca pr nr crr fr tt kb ov title G ty d A (.slice p ((rbR G ty d A).length + 1) c) w'
theorem bkK.below {W W' : World} {pa : Option Addr} {na ca : Nat} {pr : Option Addr} {nr crr : Nat} {fr tt : Int} {kb : Nat} {ov : Bool} (h : bkK pa na ca pr nr crr fr tt kb ov W) (hb : Below W.heap.size W W') : bkK pa na ca pr nr crr fr tt kb ov W' := by
  unfold bkK at h ⊢
  exact (hb.block _ (Array.getElem?_eq_some_iff.1 h).1).trans h
theorem bkK.lt {W : World} {pa : Option Addr} {na ca : Nat} {pr : Option Addr} {nr crr : Nat} {fr tt : Int} {kb : Nat} {ov : Bool} (h : bkK pa na ca pr nr crr fr tt kb ov W) : kb < W.heap.size := by
  unfold bkK at h
  exact (Array.getElem?_eq_some_iff.1 h).1
attribute [local go_sem ↓] ldA_is
set_option maxRecDepth 100000 in
set_option maxHeartbeats 16000000 in
theorem rblock_any {w : World} {pa : Option Addr} {na ca : Nat} {pr : Option Addr} {nr crr : Nat} {fr tt : Int} {kb : Nat} {ov : Bool} (hbk : bkK pa na ca pr nr crr fr tt kb ov w) {L : List Ch.Ac} (hL : L.length = na) (hna : na ≤ 100) (hsz : ∀ a ∈ L, (Ch.txN a.nm).size ≤ 1048576) (hty : ∀ a ∈ L, fits64 a.ty) {R : List Po} (hR : R.length = nr) (hok : ∀ r ∈ R, isA r.amt) (hnr : nr ≤ 1048576) (hLA : ∀ W, w.grownBy W (some kb) → Lies Ch.kA W pa L ∧ Lies kU W pr R) (title : ByteArray) (ty : Int) (hty2 : fits64 ty) (cr : Bool) (d : Nat) (hd : d ≤ 6) :
    Calls Tryz.prog 110 #[.pointer (some ⟨kb, 0, none⟩), .string title, .int .i64 ty, .bool cr, .int .i64 (d : Int)] w (RbOut w pa na ca pr nr crr fr tt kb ov title (fun a => amsL L fr tt ty (Ch.txN a.nm) cr R) ty d L) := by
  obtain ⟨G, hG⟩ : ∃ G : Ch.Ac → List Int, G = fun a => amsL L fr tt ty (Ch.txN a.nm) cr R := ⟨_, rfl⟩
  rw [← hG]
  have hkw := hbk.lt
  obtain ⟨w1, hw1⟩ : ∃ W, W = w.alloc (.cells #[.string title] 9) := ⟨_, rfl⟩
  obtain ⟨w2, hw2⟩ : ∃ W, W = w1.alloc (.cells #[.slice (some ⟨w.heap.size, 0, none⟩) 1 1] 93) := ⟨_, rfl⟩
  have b01 : Below w.heap.size w w1 := by rw [hw1]; exact bal (Below.refl _ _) _
  have b12 : Below w1.heap.size w1 w2 := by rw [hw2]; exact bal (Below.refl _ _) _
  have b02 : Below w.heap.size w w2 := b01.trans (b12.mono b01.size)
  have H0 : Hid (RbAt w pa na ca pr nr crr fr tt kb ov title G ty d (L.take 0) (.slice (some ⟨w1.heap.size, 0, none⟩) 1 1) w2) := by
    refine ⟨hbk.below b02, ⟨[(⟨some ⟨w.heap.size, 0, none⟩, 1, 1⟩ : Sl)], ?_, rfl, fun k s r hs hr => ?_⟩, grown_below _ b02⟩
    · rw [hw2]
      exact World.ownsRow_lit (base := w.heap.size) (e := 93) (size := 1) w1 #[.slice (some ⟨w.heap.size, 0, none⟩) 1 1] 1 b01.size (by decide) rfl
    · have hk : k = 0 := by
        have := (List.getElem?_eq_some_iff.1 hs).1
        simp at this
        exact this
      subst hk
      cases hs
      cases hr
      have : RowIs w1 ⟨some ⟨w.heap.size, 0, none⟩, 1, 1⟩ [title.data.toList] := by
        rw [hw1]
        exact litL w [title.data.toList]
      exact this.gd (Gd.of_below (B := 0) b12 (Nat.zero_le _))
  have hw1' := hw1.symm; have hw2' := hw2.symm
  have HKW := hide hkw; have HL := hide hL; have HNA := hide hna; have HSZ := hide hsz; have HTY := hide hty; have HR := hide hR; have HOK := hide hok; have HNR := hide hnr; have HLA := hide hLA; have HGE := hide hG
  clear hbk hkw hL hsz hty hR hok hnr hLA hw1 hw2 b01 b12 b02 hG
  go_enter Tryz.func110, Tryz.ntmps110
  go_wp2_with fail
  clear hw1' hw2'
  go_loopw [11, 12] (fun lv iv W => ∃ (k : Nat) (K : Int), k ≤ na ∧ iv = .int .i64 K ∧ K = (k : Int) ∧ (∃ p m c, lv = .slice p m c) ∧ Hid (RbAt w pa na ca pr nr crr fr tt kb ov title G ty d (L.take k) lv W)) (fun _ iv _ => ((na : Int) - intOf iv).toNat)
  case atStart => exact ⟨0, 0, by omega, rfl, rfl, ⟨_, _, _, rfl⟩, unhide H0⟩
  case round =>
    obtain ⟨wo, rfl⟩ : ∃ x, x = wr := ⟨wr, rfl⟩
    obtain ⟨k, K, hk, rfl, hK, ⟨p, m, c, rfl⟩, HA⟩ := hrel
    have c0 : wo.cell? ⟨kb, 0, none⟩ = some (.slice pa na ca) := by
      have h := (unhide HA).bk
      unfold bkK at h
      rw [cell_at h]; rfl
    by_cases hlt : k < na
    · have hI : K < (na : Int) := by omega
      have hK0 : 0 ≤ K := by omega
      have hKt : K.toNat = k := by omega
      have hkL : k < L.length := by have := unhide HL; omega
      obtain ⟨b, o, ep, hb, hld⟩ := lies_ldA (unhide HLA wo (unhide HA).grw).1 hkL
      obtain ⟨x, hx⟩ : ∃ x, x = L[k] := ⟨_, rfl⟩
      rw [← hx] at hld
      have hxm : x ∈ L := by rw [hx]; exact List.getElem_mem hkL
      have hTK : L.take (k + 1) = L.take k ++ [x] := by rw [List.take_succ_eq_append_getElem hkL, ← hx]
      obtain ⟨w1, hw1⟩ : ∃ W, W = wo.alloc (obA x) := ⟨_, rfl⟩
      have b1 : Below wo.heap.size wo w1 := by rw [hw1]; exact bal (Below.refl _ _) _
      have hh1 : w1.heap[wo.heap.size]? = some (obA x) := by rw [hw1]; exact heap_new _ _
      have hA1 : RbAt w pa na ca pr nr crr fr tt kb ov title G ty d (L.take k) (.slice p m c) w1 := ⟨(unhide HA).bk.below b1, (unhide HA).rl.below b1, (unhide HA).grw.trans (grown_below _ b1)⟩
      have hxs : (Ch.txN x.nm).size ≤ 1048576 := unhide HSZ x hxm
      have hxt := unhide HTY x hxm
      obtain ⟨T, hT⟩ : ∃ z, z = x.ty := ⟨_, rfl⟩
      obtain ⟨N, hN⟩ : ∃ z, z = Ch.txN x.nm := ⟨_, rfl⟩
      have e0 : w1.cell? ⟨wo.heap.size, 0, none⟩ = some (.string N) := by rw [cell_at hh1, hN]; rfl
      have e1 : w1.cell? ⟨wo.heap.size, 1, none⟩ = some (.int .i64 T) := by rw [cell_at hh1, hT]; rfl
      have hw1' : wo.alloc (.cells #[.string N, .int .i64 T, .int .i64 x.dy, .bool x.cl] 139) = w1 := by rw [hw1, hN, hT]; rfl
      rw [← hT] at hxt
      rw [← hN] at hxs
      unfold cvA at hld
      rw [← hN, ← hT] at hld
      have HSN : Hid (∀ W : World, W.heap[wo.heap.size]? = some (obA x) → W.cell? ⟨wo.heap.size, 0, none⟩ = some (.string N)) := fun W h3 => by
        unfold obA at h3
        rw [cell_at h3, hN]; rfl
      have hwlo : w.heap.size ≤ wo.heap.size := (unhide HA).grw.size
      subst ep
      have HK := hide hK; have HA1 := hide hA1; have HTK := hide hTK; have HTT := hide hT; have HNN := hide hN; have HH1 := hide hh1; have HXS := hide hxs; have HWLO := hide hwlo
      clear hkL hlt hK hx hxm hw1 b1 hA1 hTK hT hN hh1 HA hb hxs hwlo
      by_cases hc : T = ty
      · subst hc
        have HGX : Hid (G x = amsL L fr tt T N cr R) := by show _ = _; rw [unhide HGE, unhide HNN]
        have HNEWO : Hid (rbO G T ov (L.take (k + 1)) = ovr (rbO G T ov (L.take k)) (G x)) := by
          show _ = _
          rw [unhide HTK, rbO_app, rbO, if_pos (unhide HTT).symm, rbO]
        have HNEWL : Hid ((sumL (G x)).1 = 0 → rbR G T d (L.take (k + 1)) = rbR G T d (L.take k)) := fun hz => by
          rw [unhide HTK, rbR_app, rbR, if_neg (fun h => h.2 hz), rbR, List.append_nil]
        have HNEWM : Hid ((sumL (G x)).1 ≠ 0 → rbR G T d (L.take (k + 1)) = rbR G T d (L.take k) ++ [[[32, 32] ++ x.nm, txt (sumL (G x)).1 d]]) := fun hz => by
          rw [unhide HTK, rbR_app, rbR, if_pos ⟨(unhide HTT).symm, hz⟩, rbR]
        have hbkd := (unhide HA1).bk
        unfold bkK at hbkd
        have hlies := unhide HLA w1 (unhide HA1).grw
        have D1 := hide (amounts_any hbkd (unhide HL) hlies.1 hna (unhide HR) hlies.2 (unhide HOK) (unhide HNR) T N cr)
        have hne : (T != T) = false := by simp
        clear hbkd hlies
        go_wp2_with (go_at_call 109; refine (unhide D1).mono ?_)
        rintro e w2 ⟨p2, c2, rfl, hAm⟩
        have hbk2 := (unhide HA1).bk.below hAm.bel
        have D2 := rsum_book (c := c2) hbk2 rfl hAm.own (amsL_isA (unhide HOK)) (by
          have h1 := amsL_len (L := L) (by have := unhide HL; omega) fr tt T N cr R
          have := unhide HR; have := unhide HNR
          omega)
        rw [← unhide HGX] at D2 ⊢
        obtain ⟨M, hM⟩ : ∃ M, M = (G x).length := ⟨_, rfl⟩
        rw [← hM] at D2 ⊢
        have D2 := hide D2
        have HB2 := hide hAm.bel
        clear hAm hbk2 D1 hM hld hw1' e1 hne
        go_wp2_with fail
        refine (unhide D2).mono ?_
        rintro e w3 ⟨rfl, hbk3, hg3⟩
        clear D2
        have hbb : w1.heap[kb]? = some (bkO _ na ca pr nr crr fr tt (rbO G T ov (L.take k))) := (unhide HA1).bk
        have hb2' := (unhide HB2)
        have hbk2 : w2.heap[kb]? = some (bkO _ na ca pr nr crr fr tt (rbO G T ov (L.take k))) := (hb2'.block _ (Array.getElem?_eq_some_iff.1 hbb).1).trans hbb
        have hwk : wo.heap.size ≠ kb := by have := unhide HKW; have := unhide HWLO; omega
        have hh2 := (hb2'.block _ (Array.getElem?_eq_some_iff.1 (unhide HH1)).1).trans (unhide HH1)
        have hh3 : w3.heap[wo.heap.size]? = some (obA x) := (hg3.block _ (Array.getElem?_eq_some_iff.1 hh2).1 (fun e => hwk (Option.some.inj e))).trans hh2
        have hrl3 : Rl w.heap.size w3 (.slice p m c) ([[title.data.toList]] ++ rbR G T d (L.take k)) := by
          have h := (unhide HA1).rl.below hb2'
          unfold bkO at hbk2
          exact h.kept2 hbk2 (by decide) (by decide) hg3
        have hgw3 : w.grownBy w3 (some kb) := ((unhide HA1).grw.trans (grown_below _ hb2')).trans hg3
        rw [← unhide HNEWO] at hbk3
        obtain ⟨s, hs⟩ : ∃ z, z = (sumL (G x)).1 := ⟨_, rfl⟩
        rw [← hs]
        have HBK3 := hide hbk3; have HRL3 := hide hrl3; have HGW3 := hide hgw3; have HH3 := hide hh3; have HSV := hide hs
        clear hbk3 hg3 hbb hb2' hbk2 hwk hh2 hh3 hrl3 hgw3 hs e0
        by_cases hz : s = 0
        · subst hz
          have HNEW : Hid (RbAt w (some ⟨b, o, none⟩) na ca pr nr crr fr tt kb ov title G T d (L.take (k + 1)) (.slice p m c) w3) := by
            have e := unhide HNEWL (unhide HSV).symm
            exact ⟨unhide HBK3, by rw [e]; exact unhide HRL3, unhide HGW3⟩
          go_wp2_with fail
          exact ⟨⟨k + 1, K + 1, by omega, by go_num, by have := unhide HK; omega, ⟨_, _, _, rfl⟩, unhide HNEW⟩, by have := unhide HK; simp [intOf]; omega⟩
        · have hzb : (s != 0) = true := by rw [bne_iff_ne]; exact hz
          have hsA : isA s := by rw [unhide HSV]; exact sumL_isA _
          have k1 : ¬ 9223372036854775807 < 2 + N.size := by have := unhide HXS; omega
          obtain ⟨w4, hw4⟩ : ∃ W, W = w3.drew := ⟨_, rfl⟩
          have b34 : Below w3.heap.size w3 w4 := by rw [hw4]; exact below_drewN (Below.refl _ _) 1
          have D3 := hide (rmoney_any s d hsA hd w4)
          obtain ⟨LB, hLB⟩ : ∃ z : ByteArray, z = ⟨#[32, 32]⟩ ++ N := ⟨_, rfl⟩
          have HHX : Hid (∀ W, Below w3.heap.size w3 W → W.heap[wo.heap.size]? = some (obA x)) := fun W hb => (hb.block _ (Array.getElem?_eq_some_iff.1 (unhide HH3)).1).trans (unhide HH3)
          have hs3 := unhide HSN w4 (unhide HHX w4 b34)
          have hs2 : w3.drew.cell? ⟨wo.heap.size, 0, none⟩ = some (.string N) := by rw [← hw4]; exact hs3
          have HW4 := hide hw4; have HLB := hide hLB; have HB34 := hide b34; have HSNZ := hide hz
          clear hw4 b34 hsA hLB hz
          go_upto_region 9 with fail
          refine wp_region_last (n := 11) (S := fun W => W.cell? ⟨wo.heap.size, 0, none⟩ = some (.string N)) (by kernel_rfl) hs2 (fun hHeld => ?_)
          clear hHeld hs2
          rw [← unhide HW4]
          refine tkW 0 ?_; refine tkW 1 ?_
          refine tkN 2 ?_ (hy := by (refine Or.inl ⟨by rfl, ?_⟩; intro W hSW; go_simp; try with_reducible rfl))
          refine tkW 3 ?_; refine tkW 4 ?_; refine tkW 5 ?_
          refine wpAnyL_one (i := 6) (by kernel_rfl) rfl (fun KK hKK => ?_)
          go_simp
          go_wp2_with (go_at_call 54; refine (unhide D3).mono ?_; rintro e w5 ⟨rfl, hb5⟩)
          have hb35 : Below w3.heap.size w3 w5 := (unhide HB34).trans (hb5.mono (unhide HB34).size)
          refine hKK.out _ _ (unhide HSN w5 (unhide HHX w5 hb35)) (fun hHeld => ?_)
          clear hKK KK D3 hs3 hHeld
          obtain ⟨w6, hw6⟩ : ∃ W, W = w5.alloc (.cells #[.string LB, .string (txB (txt s d))] 9) := ⟨_, rfl⟩
          have b56 : Below w5.heap.size w5 w6 := by rw [hw6]; exact bal (Below.refl _ _) _
          have hb36 : Below w3.heap.size w3 w6 := hb35.trans (b56.mono hb35.size)
          have hri : RowIs w6 ⟨some ⟨w5.heap.size, 0, none⟩, 2, 2⟩ [[32, 32] ++ x.nm, txt s d] := by
            have e : LB = txB ([32, 32] ++ x.nm) := by rw [unhide HLB, unhide HNN, ← txB_app]; rfl
            rw [hw6, e]
            exact litL w5 [[32, 32] ++ x.nm, txt s d]
          have hw36 : w.heap.size ≤ w6.heap.size := Nat.le_trans (unhide HGW3).size hb36.size
          obtain ⟨p', c', w7, r7, hrl7, b7, k7⟩ := ((unhide HRL3).below hb36).app hw36 hri (by
            have h1 := rbR_len G T d (L.take k)
            rw [List.length_take] at h1
            simp only [List.length_append, List.length_singleton]
            omega)
          have hnv : (Value.slice p m c).ownBlock ≠ some wo.heap.size ∧ (Value.slice p m c).ownBlock ≠ some kb := by
            obtain ⟨LL, hrl⟩ := (unhide HRL3).below hb36
            refine ⟨not_own hrl.own (unhide HHX w6 hb36) (by decide), own_far hrl.own (unhide HKW)⟩
          have hh6 := unhide HHX w6 hb36
          have hh7 : w7.heap[wo.heap.size]? = some (obA x) := (k7 _ (Array.getElem?_eq_some_iff.1 hh6).1 hnv.1).trans hh6
          have hbk6 := (unhide HBK3).below hb36
          have HNEW : Hid (RbAt w (some ⟨b, o, none⟩) na ca pr nr crr fr tt kb ov title G T d (L.take (k + 1)) (.slice p' (([[title.data.toList]] ++ rbR G T d (L.take k)).length + 1) c') w7) := by
            have e := unhide HNEWM (by rw [← unhide HSV]; exact unhide HSNZ)
            rw [← unhide HSV] at e
            refine ⟨(k7 _ hbk6.lt hnv.2).trans hbk6, ?_, ?_⟩
            · rw [e, ← List.append_assoc]
              exact hrl7
            · have h6 : w.grownBy w6 (some kb) := (unhide HGW3).trans (grown_below _ hb36)
              exact ⟨b7.os.trans h6.os, b7.tape.trans h6.tape, b7.output.trans h6.output, Nat.le_trans h6.size b7.size, fun j hj hne => (b7.block j hj).trans (h6.block j hj hne)⟩
          obtain ⟨MM, hMM⟩ : ∃ M, M = ([[title.data.toList]] ++ rbR G T d (L.take k)).length := ⟨_, rfl⟩
          rw [← hMM] at r7 HNEW
          have S6 := hide (unhide HSN w6 hh6)
          have S67 : Hid (∀ O, (w6.alloc O).cell? ⟨wo.heap.size, 0, none⟩ = some (.string N)) := fun O => unhide HSN _ (unhide HHX _ (hb36.trans ((bal (Below.refl _ _) O : Below w6.heap.size w6 (w6.alloc O)).mono hb36.size)))
          have S7 := hide (unhide HSN w7 hh7)
          have HR7 := hide r7; have HW6 := hide hw6
          clear hw6 b56 hb36 hri hw36 r7 hrl7 b7 k7 hnv hh6 hh7 hbk6 hMM hb35 hb5
          refine wpAnyL_one (i := 7) (by kernel_rfl) rfl (fun KK hKK => ?_)
          go_simp
          rw [← unhide HLB]
          have HW6' := (unhide HW6).symm
          rw [HW6']
          refine hKK.out _ _ (unhide S6) (fun hHeld => ?_)
          clear hKK KK HW6' hHeld
          refine wpAnyL_one (i := 8) (by kernel_rfl) rfl (fun KK hKK => ?_)
          go_simp
          refine hKK.out _ _ (unhide S67 _) (fun hHeld => ?_)
          clear hKK KK hHeld
          refine wpAnyL_one (i := 9) (by kernel_rfl) rfl (fun KK hKK => ?_)
          refine step_append_run _ (by rfl) _ _ 94 (by rfl) _ _ _ _ (by rfl) (by rfl) (unhide HR7) ?_
          refine hKK.out _ _ (unhide S7) (fun hHeld => ?_)
          clear hKK KK
          refine tkW 10 ?_
          refine wpAnyL_done (by kernel_rfl) ?_
          go_wp2_with fail
          exact ⟨⟨k + 1, K + 1, by omega, by go_num, by have := unhide HK; omega, ⟨_, _, _, rfl⟩, unhide HNEW⟩, by have := unhide HK; simp [intOf]; omega⟩
      · have hne : (T != ty) = true := by rw [bne_iff_ne]; exact hc
        have HNEW : Hid (RbAt w (some ⟨b, o, none⟩) na ca pr nr crr fr tt kb ov title G ty d (L.take (k + 1)) (.slice p m c) w1) := by
          have h := unhide HA1
          have e1 : rbO G ty ov (L.take (k + 1)) = rbO G ty ov (L.take k) := by rw [unhide HTK, rbO_app, rbO, if_neg (by rw [← unhide HTT]; exact hc), rbO]
          have e2 : rbR G ty d (L.take (k + 1)) = rbR G ty d (L.take k) := by rw [unhide HTK, rbR_app, rbR, if_neg (by rw [← unhide HTT]; exact fun h => hc h.1), rbR, List.append_nil]
          exact ⟨by rw [e1]; exact h.bk, by rw [e2]; exact h.rl, h.grw⟩
        clear hc e0
        go_wp2_with fail
        exact ⟨⟨k + 1, K + 1, by omega, by go_num, by have := unhide HK; omega, ⟨_, _, _, rfl⟩, unhide HNEW⟩, by have := unhide HK; simp [intOf]; omega⟩
    · have hI : ¬ K < (na : Int) := by omega
      have hkn : k = na := by omega
      subst hkn
      have HFIN : Hid (RbOut w pa k ca pr nr crr fr tt kb ov title G ty d L (.returned (.slice p m c)) wo) := by
        have h := unhide HA
        rw [List.take_of_length_le (by have := unhide HL; omega)] at h
        obtain ⟨p', c', e⟩ := h.rl.slice
        have el : ([[title.data.toList]] ++ rbR G ty d L).length = (rbR G ty d L).length + 1 := by simp only [List.length_append, List.length_singleton]; omega
        rw [el] at e
        cases e
        exact ⟨p, c, rfl, h⟩
      clear HA hK
      go_wp2_with fail
      go_ret
      exact unhide HFIN
end Go.Proofs.YtcafhmlpmbkhkaaGreatDoor
namespace Go.Proofs.YtcafhmlpmbkhkaaGreatDoor
open Go Go.Shelf Go.ChangeShapes Go.WideShapes Go.ChangeAt Go.RowKit Go.Maps
set_option linter.unusedVariables false
set_option linter.unusedSimpArgs false
theorem Rl.all {B C : Nat} {W : World} {v : Value} {R R2 : List (List Tx)} (h : Rl B W v R) (hB : B ≤ W.heap.size) {p : Option Addr} {n c : Nat} (h2 : Rl C W (.slice p n c) R2) (hn2 : R2.length = n) (hn : R.length + R2.length ≤ 1099511627776) :
    ∃ p' c' w', (Builtin.append_ #[94, 94] 94 #[v, .slice p n c]).run Tryz.prog W = .ok (.slice p' (R.length + n) c') w' ∧ Rl B w' (.slice p' (R.length + n) c') (R ++ R2) ∧ Below B W w' ∧ (∀ k, k < W.heap.size → v.ownBlock ≠ some k → w'.heap[k]? = W.heap[k]?) := by
  obtain ⟨L, h⟩ := h
  obtain ⟨L2, h2⟩ := h2
  have hl2 : L2.length = n := h2.len.trans hn2
  have hL2 : Lies kS W p L2 := own_lies kS_ok hl2 (by have := h2.own; rw [hn2] at this; exact this)
  have hpc : p = none → c = 0 := by
    obtain ⟨p', c', e, q, _⟩ := row_slice h2.own
    cases e
    exact fun e => (q e).2
  obtain ⟨p', c', w1, r1, o1, b1, k1, q1⟩ := run_app kS_ok (L := L) (M := L2) 94 h.own hB p c hpc hL2 (by rw [hl2, ← hn2]; exact hn)
  rw [hl2] at r1 o1
  have gd : Gd B W w1 := ⟨b1, fun k ys t f hk h3 h4 => k1 k (Array.getElem?_eq_some_iff.1 hk).1 (not_own h.own hk h4)⟩
  refine ⟨p', c', w1, r1, ⟨L ++ L2, ?_, by simp [h.len, h2.len], fun k s r' hs hr' => ?_⟩, b1, k1⟩
  · rw [List.length_append, hn2]
    exact o1
  · by_cases hk : k < R.length
    · rw [List.getElem?_append_left (by rw [h.len]; exact hk)] at hs
      rw [List.getElem?_append_left hk] at hr'
      exact (h.row k s r' hs hr').gd gd
    · rw [List.getElem?_append_right (by rw [h.len]; omega), h.len] at hs
      rw [List.getElem?_append_right (by omega)] at hr'
      exact (h2.row _ s r' hs hr').gd gd
theorem rbR_two (G : Ch.Ac → List Int) (ty : Int) (d : Nat) : ∀ (A : List Ch.Ac), ∀ r ∈ rbR G ty d A, r.length ≤ 2
  | [], r, hr => by cases hr
  | a :: A, r, hr => by
    rw [rbR] at hr
    split at hr
    · rcases List.mem_cons.1 hr with rfl | hr
      · exact Nat.le_refl _
      · exact rbR_two G ty d A r hr
    · exact rbR_two G ty d A r hr
theorem rbR_cell (G : Ch.Ac → List Int) (ty : Int) {d : Nat} (hd : d ≤ 6) : ∀ (A : List Ch.Ac), (∀ a ∈ A, (Ch.txN a.nm).size ≤ 101) → ∀ r ∈ rbR G ty d A, ∀ x ∈ r, x.length ≤ 200
  | [], _, r, hr => by cases hr
  | a :: A, h, r, hr => by
    rw [rbR] at hr
    split at hr
    · rcases List.mem_cons.1 hr with rfl | hr
      · intro x hx
        simp only [List.mem_cons, List.not_mem_nil, or_false] at hx
        rcases hx with rfl | rfl
        · have h1 := h a (by simp)
          have h2 : a.nm.length = (Ch.txN a.nm).size := by show _ = a.nm.toArray.size; simp
          simp only [List.length_append, List.length_cons, List.length_nil]
          omega
        · have := txt_len (sumL (G a)).1 d hd; omega
      · exact rbR_cell G ty hd A (fun a ha => h a (by simp [ha])) r hr
    · exact rbR_cell G ty hd A (fun a ha => h a (by simp [ha])) r hr
structure RiAt (w4 : World) (pa : Option Addr) (na ca : Nat) (pr : Option Addr) (nr crr : Nat) (fr tt : Int) (kb : Nat) (ov : Bool) (rows : List (List Tx)) (lv : Value) (W : World) : Prop where
  bk : bkK pa na ca pr nr crr fr tt kb ov W
  rl : Rl w4.heap.size W lv rows
  grw : w4.grownBy W (some kb)
section
variable {w4 : World} {pa : Option Addr} {na ca : Nat} {pr : Option Addr} {nr crr : Nat} {fr tt : Int} {kb : Nat} {ov ov' : Bool} {rows : List (List Tx)} {lv : Value} {W W' : World}
theorem RiAt.below (h : RiAt w4 pa na ca pr nr crr fr tt kb ov rows lv W) (hb : Below W.heap.size W W') : RiAt w4 pa na ca pr nr crr fr tt kb ov rows lv W' :=
  ⟨h.bk.below hb, h.rl.below hb, h.grw.trans (grown_below _ hb)⟩
theorem RiAt.next (h : RiAt w4 pa na ca pr nr crr fr tt kb ov rows lv W) (hb : bkK pa na ca pr nr crr fr tt kb ov' W') (hg : W.grownBy W' (some kb)) : RiAt w4 pa na ca pr nr crr fr tt kb ov' rows lv W' := by
  have h1 := h.bk
  unfold bkK bkO at h1
  exact ⟨hb, h.rl.kept2 h1 (by decide) (by decide) hg, h.grw.trans hg⟩
theorem grw_below {w4 W W' : World} {kb : Nat} (h : w4.grownBy W (some kb)) (hb : Below w4.heap.size W W') : w4.grownBy W' (some kb) :=
  ⟨hb.os.trans h.os, hb.tape.trans h.tape, hb.output.trans h.output, Nat.le_trans h.size hb.size, fun j hj hne => (hb.block j hj).trans (h.block j hj hne)⟩
theorem RiAt.app (h : RiAt w4 pa na ca pr nr crr fr tt kb ov rows lv W) (hkb : kb < w4.heap.size) {g : Nat} {r : List Tx} (hr : RowIs W ⟨some ⟨g, 0, none⟩, 2, 2⟩ r) (hn : rows.length + 1 ≤ 1099511627776) :
    ∃ p' c' w', (Builtin.append_ #[94, 94] 94 #[lv, .slice (some ⟨W.heap.size, 0, none⟩) 1 1]).run Tryz.prog (W.alloc (.cells #[.slice (some ⟨g, 0, none⟩) 2 2] 93)) = .ok (.slice p' (rows.length + 1) c') w' ∧ RiAt w4 pa na ca pr nr crr fr tt kb ov (rows ++ [r]) (.slice p' (rows.length + 1) c') w' := by
  obtain ⟨p', c', w', r1, h1, b1, k1⟩ := h.rl.app h.grw.size hr hn
  refine ⟨p', c', w', r1, (k1 _ h.bk.lt (fun e => ?_)).trans h.bk, h1, grw_below h.grw b1⟩
  obtain ⟨LL, hrl⟩ := h.rl
  exact own_far hrl.own hkb e
theorem RiAt.all (h : RiAt w4 pa na ca pr nr crr fr tt kb ov rows lv W) (hkb : kb < w4.heap.size) {C : Nat} {p : Option Addr} {n c : Nat} {R2 : List (List Tx)} (h2 : Rl C W (.slice p n c) R2) (hn2 : R2.length = n) (hn : rows.length + R2.length ≤ 1099511627776) :
    ∃ p' c' w', (Builtin.append_ #[94, 94] 94 #[lv, .slice p n c]).run Tryz.prog W = .ok (.slice p' (rows.length + n) c') w' ∧ RiAt w4 pa na ca pr nr crr fr tt kb ov (rows ++ R2) (.slice p' (rows.length + n) c') w' := by
  obtain ⟨p', c', w', r1, h1, b1, k1⟩ := h.rl.all h.grw.size h2 hn2 hn
  refine ⟨p', c', w', r1, (k1 _ h.bk.lt (fun e => ?_)).trans h.bk, h1, grw_below h.grw b1⟩
  obtain ⟨LL, hrl⟩ := h.rl
  exact own_far hrl.own hkb e
end
theorem fault_isA {L : List Ch.Ac} {R : List Po} (h : errC L R = 0) (hok : ∀ r ∈ R, PoOk r) : ∀ r ∈ R, isA r.amt := fun r hr => by
  have hg := errC_good h
  unfold errC at h
  rw [if_pos (Ch.ok_good.2 hg)] at h
  have h1 := fstU_zero h r hr
  have h2 := (hok r hr).amt
  unfold faultU at h1
  unfold fits64 at h2
  unfold isA
  split at h1
  · cases h1
  · split at h1
    · cases h1
    · split at h1
      · cases h1
      · omega
theorem ints_app {W : World} {B C n m : Nat} {v : Value} {l l2 : List Int} (h : W.ownsRow B 2 1 v n (kN.flat l)) (hB : B ≤ W.heap.size) {p : Option Addr} {c : Nat} (hm : l2.length = m) (h2 : W.ownsRow C 2 1 (.slice p m c) m (kN.flat l2)) (hn : n + m ≤ 1099511627776) :
    ∃ p' c' w', (Builtin.append_ #[92, 92] 92 #[v, .slice p m c]).run Tryz.prog W = .ok (.slice p' (n + m) c') w' ∧ w'.ownsRow B 2 1 (.slice p' (n + m) c') (n + m) (kN.flat (l ++ l2)) ∧ Below B W w' := by
  have hL2 : Lies kN W p l2 := own_lies kN_ok hm h2
  have hpc : p = none → c = 0 := by
    obtain ⟨p', c', e, q, _⟩ := row_slice h2
    cases e
    exact fun e => (q e).2
  obtain ⟨p', c', w1, r1, o1, b1, k1, q1⟩ := run_app kN_ok (L := l) (M := l2) 92 h hB p c hpc hL2 (by rw [hm]; exact hn)
  rw [hm] at r1 o1
  exact ⟨p', c', w1, r1, o1, b1⟩
end Go.Proofs.YtcafhmlpmbkhkaaGreatDoor
namespace Go.Proofs.YtcafhmlpmbkhkaaGreatDoor
open Go Go.Shelf Go.ChangeShapes Go.WideShapes Go.ChangeAt Go.RowKit Go.Maps
set_option linter.unusedVariables false
set_option linter.unusedSimpArgs false
def told (s : Int) : Int × Int := if -9223372036854775808 < s ∧ s < 9223372036854775808 then (s, 0) else (0, 11)
theorem told_err (s : Int) : (told s).2 = 0 ∨ (told s).2 = 11 := by unfold told; split <;> simp
theorem told_fit {s : Int} (h : (told s).2 = 0) : (told s).1 = s := by
  unfold told at h ⊢
  split at h
  · rename_i q; rw [if_pos q]
  · cases h
theorem told_neg (s : Int) : told (-s) = (-(told s).1, (told s).2) := by
  unfold told
  by_cases q : -9223372036854775808 < s ∧ s < 9223372036854775808
  · rw [if_pos q, if_pos (by omega)]
  · rw [if_neg q, if_neg (by omega)]; rfl
theorem sumZ_snoc (l : List Int) (z : Int) : sumZ (fun k => (l ++ [z]).getD k 0) (l ++ [z]).length = sumZ (fun k => l.getD k 0) l.length + z := by
  rw [List.length_append, List.length_singleton, sumZ]
  congr 1
  · exact sumZ_ext _ (fun i hi => by simp [List.getD_eq_getElem?_getD, List.getElem?_append_left hi])
  · simp
theorem anyMin_snoc (l : List Int) (z : Int) : anyMin (fun k => (l ++ [z]).getD k 0) (l ++ [z]).length = (anyMin (fun k => l.getD k 0) l.length || z == -9223372036854775808) := by
  rw [List.length_append, List.length_singleton, anyMin]
  congr 1
  · exact anyMin_ext _ (fun i hi => by simp [List.getD_eq_getElem?_getD, List.getElem?_append_left hi])
  · simp
theorem sum_told (l : List Int) (h : ∀ z ∈ l, isA z) : sumL l = told l.sum := by
  have h2 : ∀ (n : Nat) (l : List Int), l.length = n → (∀ z ∈ l, isA z) → sumZ (fun k => l.getD k 0) l.length = l.sum ∧ anyMin (fun k => l.getD k 0) l.length = false := by
    intro n
    induction n with
    | zero =>
      intro l hl _
      have : l = [] := List.eq_nil_of_length_eq_zero hl
      subst this
      exact ⟨rfl, rfl⟩
    | succ n ih =>
      intro l hl hA
      have hne : l ≠ [] := fun e => by rw [e] at hl; cases hl
      obtain ⟨z, hz⟩ : ∃ z, z = l.getLast hne := ⟨_, rfl⟩
      obtain ⟨m, hm⟩ : ∃ m, m = l.dropLast := ⟨_, rfl⟩
      have e : l = m ++ [z] := by rw [hm, hz, List.dropLast_concat_getLast]
      subst e
      rw [List.length_append, List.length_singleton] at hl
      obtain ⟨i1, i2⟩ := ih m (by omega) (fun z hz => hA z (by simp [hz]))
      have hzA := hA z (by simp)
      rw [sumZ_snoc, anyMin_snoc, i1, i2]
      refine ⟨by simp, ?_⟩
      have : ¬ z = -9223372036854775808 := by unfold isA at hzA; omega
      simp [this]
  obtain ⟨a, b⟩ := h2 l.length l rfl h
  unfold sumL sumSpec told
  rw [a, b]
  simp
theorem sum_sg (cr : Bool) : ∀ l : List Int, (l.map (sg cr)).sum = sg cr l.sum
  | [] => by cases cr <;> rfl
  | z :: l => by
    rw [List.map_cons, List.sum_cons, List.sum_cons, sum_sg cr l]
    cases cr <;> (simp only [sg, if_true, if_false, Bool.false_eq_true]; try omega)
theorem rowA_one {ty : Int} {cr : Bool} {r : Po} : ∀ {L : List Ch.Ac}, (L.Pairwise fun a b => a.nm < b.nm) → ∀ {a : Ch.Ac}, a ∈ L → a.ty = ty → Ch.txN a.nm = r.acc → rowA ty cr r L = [sg cr r.amt]
  | [], _, a, ha, _, _ => by cases ha
  | b :: L, hp, a, ha, ht, hn => by
    rw [List.pairwise_cons] at hp
    have hno : ∀ (M : List Ch.Ac), (∀ c ∈ M, Ch.txN c.nm ≠ r.acc) → rowA ty cr r M = [] := by
      intro M
      induction M with
      | nil => intro _; rfl
      | cons c M ih =>
        intro hM
        rw [rowA, if_neg (fun h => hM c (by simp) h.1)]
        exact ih (fun c hc => hM c (by simp [hc]))
    have hinj : ∀ x y : Ch.Nm, Ch.txN x = Ch.txN y → x = y := fun x y e => by
      have := congrArg (fun b : ByteArray => b.data.toList) e
      simpa using this
    rcases List.mem_cons.1 ha with rfl | ha
    · rw [rowA, if_pos ⟨hn, ht⟩, hno L (fun c hc e => by
        have h1 := hp.1 c hc
        rw [hinj _ _ (e.trans hn.symm)] at h1
        exact List.lt_irrefl _ h1)]
    · rw [rowA, if_neg (fun h => by
        have h1 := hp.1 a ha
        rw [hinj _ _ (h.1.trans hn.symm)] at h1
        exact List.lt_irrefl _ h1)]
      exact rowA_one hp.2 ha ht hn
theorem cntF_cons (r : Po) (R : List Po) (fr tt : Int) (s : ByteArray) : cntF (r :: R) fr tt s = (if cnt fr tt r = true ∧ r.acc = s then [r.amt] else []) ++ cntF R fr tt s := by
  unfold cntF
  rw [List.filter_cons]
  by_cases h : cnt fr tt r = true ∧ r.acc = s
  · rw [if_pos h, if_pos (by rw [h.1, decide_eq_true h.2]; rfl)]; rfl
  · rw [if_neg h]
    rw [if_neg]
    · rfl
    · intro h2
      simp only [Bool.and_eq_true, decide_eq_true_eq] at h2
      exact h h2
theorem ams_one {L : List Ch.Ac} (hG : Ch.Good L) {a : Ch.Ac} (ha : a ∈ L) {ty : Int} (ht : a.ty = ty) (fr tt : Int) (cr : Bool) : ∀ R : List Po, amsL L fr tt ty (Ch.txN a.nm) cr R = (cntF R fr tt (Ch.txN a.nm)).map (sg cr)
  | [] => rfl
  | r :: R => by
    have hne : ¬ Ch.txN a.nm = ⟨#[]⟩ := fun e => by
      have h1 := hG.name a ha
      have h2 := congrArg (fun b : ByteArray => b.data.toList) e
      have h3 : a.nm = [] := by simpa using h2
      rw [h3] at h1
      exact absurd h1 (by decide)
    rw [amsL, cntF_cons, List.map_append, ams_one hG ha ht fr tt cr R]
    congr 1
    unfold pas
    rw [decide_eq_false hne, Bool.false_or]
    by_cases h : cnt fr tt r = true ∧ r.acc = Ch.txN a.nm
    · rw [if_pos h, if_pos (by rw [h.1, decide_eq_true h.2]; rfl), rowA_one hG.rise ha ht h.2.symm]
      rfl
    · rw [if_neg h, if_neg]
      · rfl
      · intro h2
        simp only [Bool.and_eq_true, decide_eq_true_eq] at h2
        exact h h2
def tot (F : ByteArray → List Int) (ty : Int) (cr : Bool) : List Ch.Ac → Int
  | [] => 0
  | a :: L => (if a.ty = ty then sg cr (F (Ch.txN a.nm)).sum else 0) + tot F ty cr L
theorem sg_add (cr : Bool) (x y : Int) : sg cr (x + y) = sg cr x + sg cr y := by
  unfold sg; split <;> omega
theorem tot_cons (r : Po) (R : List Po) (fr tt ty : Int) (cr : Bool) : ∀ L : List Ch.Ac, tot (cntF (r :: R) fr tt) ty cr L = (if cnt fr tt r = true then (rowA ty cr r L).sum else 0) + tot (cntF R fr tt) ty cr L
  | [] => by simp [tot, rowA]
  | a :: L => by
    rw [tot, tot, tot_cons r R fr tt ty cr L, cntF_cons, List.sum_append, sg_add, rowA]
    by_cases h1 : cnt fr tt r = true
    · by_cases h2 : a.ty = ty
      · by_cases h3 : r.acc = Ch.txN a.nm
        · rw [if_pos h2, if_pos h2, if_pos ⟨h1, h3⟩, if_pos h1, if_pos h1, if_pos ⟨h3.symm, h2⟩, List.sum_cons]
          simp only [List.sum_cons, List.sum_nil, Int.add_zero]
          omega
        · rw [if_pos h2, if_pos h2, if_neg (fun h => h3 h.2), if_pos h1, if_pos h1, if_neg (fun h => h3 h.1.symm)]
          have : sg cr ([] : List Int).sum = 0 := by cases cr <;> rfl
          omega
      · rw [if_neg h2, if_neg h2, if_pos h1, if_pos h1, if_neg (fun h => h2 h.2)]
        omega
    · have e1 : ¬ (cnt fr tt r = true ∧ r.acc = Ch.txN a.nm) := fun h => h1 h.1
      simp only [if_neg e1, if_neg h1]
      have : sg cr ([] : List Int).sum = 0 := by cases cr <;> rfl
      split <;> omega
theorem ams_all (L : List Ch.Ac) (fr tt ty : Int) (cr : Bool) : ∀ R : List Po, (amsL L fr tt ty ⟨#[]⟩ cr R).sum = tot (cntF R fr tt) ty cr L
  | [] => by
    show 0 = _
    induction L with
    | nil => rfl
    | cons a L ih =>
      rw [tot, ← ih]
      have : sg cr (cntF [] fr tt (Ch.txN a.nm)).sum = 0 := by cases cr <;> rfl
      split <;> omega
  | r :: R => by
    rw [amsL, List.sum_append, ams_all L fr tt ty cr R, tot_cons]
    congr 1
    unfold pas
    simp only [decide_true, Bool.true_or, Bool.and_true]
    split <;> rfl
theorem F_isA {R : List Po} (h : ∀ r ∈ R, isA r.amt) (fr tt : Int) (s : ByteArray) : ∀ z ∈ cntF R fr tt s, isA z := fun z hz => by
  unfold cntF at hz
  obtain ⟨r, hr, rfl⟩ := List.mem_map.1 hz
  exact h r (List.mem_filter.1 hr).1
def fine (F : ByteArray → List Int) (t : Int) (L : List Ch.Ac) : Prop := ∀ a ∈ L, a.ty = t → (told (F (Ch.txN a.nm)).sum).2 = 0
theorem orE_two {a b : Int} (ha : a = 0 ∨ a = 11) (hb : b = 0 ∨ b = 11) : orE a b = 0 ∨ orE a b = 11 := by unfold orE; split <;> assumption
theorem blkE_two {F : ByteArray → List Int} (hF : ∀ s, ∀ z ∈ F s, isA z) (t : Int) : ∀ (L : List Ch.Ac) (o : Int), o = 0 ∨ o = 11 → (blkE F t o L = 0 ∨ blkE F t o L = 11) ∧ (blkE F t o L = 0 ↔ o = 0 ∧ fine F t L)
  | [], o, ho => ⟨ho, ⟨fun h => ⟨h, fun a ha => by cases ha⟩, fun h => h.1⟩⟩
  | a :: L, o, ho => by
    have hs := sum_told (F (Ch.txN a.nm)) (hF _)
    have he := told_err (F (Ch.txN a.nm)).sum
    rw [blkE]
    by_cases ht : a.ty = t
    · rw [if_pos ht, hs]
      obtain ⟨i1, i2⟩ := blkE_two hF t L (orE o (told (F (Ch.txN a.nm)).sum).2) (orE_two ho he)
      refine ⟨i1, i2.trans ⟨fun h => ?_, fun h => ?_⟩⟩
      · obtain ⟨h1, h2⟩ := h
        have h3 : o = 0 ∧ (told (F (Ch.txN a.nm)).sum).2 = 0 := by
          unfold orE at h1
          split at h1
          · rename_i q; exact ⟨q, h1⟩
          · rename_i q; exact absurd h1 q
        refine ⟨h3.1, fun b hb hbt => ?_⟩
        rcases List.mem_cons.1 hb with rfl | hb
        · exact h3.2
        · exact h2 b hb hbt
      · refine ⟨?_, fun b hb hbt => h.2 b (by simp [hb]) hbt⟩
        rw [h.1, h.2 a (by simp) ht]
        rfl
    · rw [if_neg ht]
      obtain ⟨i1, i2⟩ := blkE_two hF t L o ho
      refine ⟨i1, i2.trans ⟨fun h => ⟨h.1, fun b hb hbt => ?_⟩, fun h => ⟨h.1, fun b hb hbt => h.2 b (by simp [hb]) hbt⟩⟩⟩
      rcases List.mem_cons.1 hb with rfl | hb
      · exact absurd hbt ht
      · exact h.2 b hb hbt
theorem G_told {L : List Ch.Ac} (hG : Ch.Good L) {R : List Po} (hR : ∀ r ∈ R, isA r.amt) {a : Ch.Ac} (ha : a ∈ L) {ty : Int} (ht : a.ty = ty) (fr tt : Int) (cr : Bool) : sumL (amsL L fr tt ty (Ch.txN a.nm) cr R) = (sg cr (told (cntF R fr tt (Ch.txN a.nm)).sum).1, (told (cntF R fr tt (Ch.txN a.nm)).sum).2) := by
  rw [sum_told _ (amsL_isA hR), ams_one hG ha ht, sum_sg]
  unfold sg
  split
  · exact told_neg _
  · rfl
theorem rbO_two {F : ByteArray → List Int} (G : Ch.Ac → List Int) (t : Int) : ∀ (A : List Ch.Ac), (∀ a ∈ A, a.ty = t → (sumL (G a)).2 = (told (F (Ch.txN a.nm)).sum).2) → ∀ o : Bool, (rbO G t o A = false ↔ o = false ∧ fine F t A)
  | [], _, o => ⟨fun h => ⟨h, fun a ha => by cases ha⟩, fun h => h.1⟩
  | a :: A, hA, o => by
    rw [rbO]
    by_cases ht : a.ty = t
    · rw [if_pos ht]
      refine (rbO_two G t A (fun b hb => hA b (by simp [hb])) _).trans ⟨fun h => ?_, fun h => ?_⟩
      · obtain ⟨h1, h2⟩ := h
        unfold ovr at h1
        split at h1
        · rename_i q
          refine ⟨h1, fun b hb hbt => ?_⟩
          rcases List.mem_cons.1 hb with rfl | hb
          · rw [← hA b (by simp) ht]; exact q
          · exact h2 b hb hbt
        · cases h1
      · refine ⟨?_, fun b hb hbt => h.2 b (by simp [hb]) hbt⟩
        unfold ovr
        rw [if_pos (by rw [hA a (by simp) ht]; exact h.2 a (by simp) ht)]
        exact h.1
    · rw [if_neg ht]
      refine (rbO_two G t A (fun b hb => hA b (by simp [hb])) o).trans ⟨fun h => ⟨h.1, fun b hb hbt => ?_⟩, fun h => ⟨h.1, fun b hb hbt => h.2 b (by simp [hb]) hbt⟩⟩
      rcases List.mem_cons.1 hb with rfl | hb
      · exact absurd hbt ht
      · exact h.2 b hb hbt
theorem rows_same {F : ByteArray → List Int} (hF : ∀ s, ∀ z ∈ F s, isA z) (G : Ch.Ac → List Int) (t : Int) (cr : Bool) (hcr : ∀ z, sidS z t = sg cr z) (d : Nat) : ∀ (A : List Ch.Ac), (∀ a ∈ A, a.ty = t → (sumL (G a)).1 = sg cr (told (F (Ch.txN a.nm)).sum).1) → (blkL F t A).map (fun x => [x.lab.data.toList, txt x.amt d]) = rbR G t d A
  | [], _ => rfl
  | a :: A, hA => by
    have ih := rows_same hF G t cr hcr d A (fun b hb => hA b (by simp [hb]))
    rw [blkL, rbR]
    by_cases ht : a.ty = t
    · have h1 := hA a (by simp) ht
      have h2 : ownA F a = (told (F (Ch.txN a.nm)).sum).1 := by unfold ownA; rw [sum_told _ (hF _)]
      have h3 : ((sumL (G a)).1 = 0 ↔ ownA F a = 0) := by rw [h1, h2]; unfold sg; split <;> omega
      by_cases hz : ownA F a = 0
      · rw [if_neg (fun h => h.2 hz), if_neg (fun h => h.2 (h3.2 hz))]
        exact ih
      · rw [if_pos ⟨ht, hz⟩, if_pos ⟨ht, fun h => hz (h3.1 h)⟩, List.map_cons, ih, h1, hcr, h2]
        congr 1
    · rw [if_neg (fun h => ht h.1), if_neg (fun h => ht h.1)]
      exact ih
theorem lines_sum {F : ByteArray → List Int} (hF : ∀ s, ∀ z ∈ F s, isA z) (t : Int) (cr : Bool) (hcr : ∀ z, sidS z t = sg cr z) : ∀ (A : List Ch.Ac), fine F t A → ((blkL F t A).map Lm.amt).sum = tot F t cr A
  | [], _ => rfl
  | a :: A, hf => by
    have ih := lines_sum hF t cr hcr A (fun b hb => hf b (by simp [hb]))
    rw [blkL, tot]
    by_cases ht : a.ty = t
    · have h2 : ownA F a = (F (Ch.txN a.nm)).sum := by
        unfold ownA
        rw [sum_told _ (hF _)]
        exact told_fit (hf a (by simp) ht)
      rw [if_pos ht]
      by_cases hz : ownA F a = 0
      · rw [if_neg (fun h => h.2 hz), ih, ← h2, hz]
        have : sg cr 0 = 0 := by cases cr <;> rfl
        omega
      · rw [if_pos ⟨ht, hz⟩, List.map_cons, List.sum_cons, ih, h2, hcr]
    · rw [if_neg (fun h => ht h.1), if_neg ht, ih]
      exact (Int.zero_add _).symm
theorem orE_zero {a b : Int} : orE a b = 0 ↔ a = 0 ∧ b = 0 := by
  unfold orE
  split
  · rename_i h; exact ⟨fun q => ⟨h, q⟩, fun q => q.2⟩
  · rename_i h; exact ⟨fun q => absurd q h, fun q => absurd q.1 h⟩
theorem ovr_false {o : Bool} {l : List Int} : ovr o l = false ↔ o = false ∧ (sumL l).2 = 0 := by
  unfold ovr
  split
  · rename_i h; exact ⟨fun q => ⟨q, h⟩, fun q => q.1⟩
  · rename_i h; exact ⟨fun q => (by cases q), fun q => absurd q.2 h⟩
end Go.Proofs.YtcafhmlpmbkhkaaGreatDoor
