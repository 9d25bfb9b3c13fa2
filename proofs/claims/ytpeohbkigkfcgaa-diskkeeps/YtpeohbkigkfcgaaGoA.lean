/- The play of goes in plain theory, and the calls at a disk that has power and no fuse. -/
import Derived.Test.YtpeohbkigkfcgaaDkZ
import Derived.Test.YtpeohbkigkfcgaaDkY
namespace Go.Proofs.Ytpeohbkigkfcgaa
open Go Go.Shelf Go.ChangeShapes Go.WideShapes Go.ChangeAt Go.RowKit Go.Maps Go.Sort
set_option linter.unusedVariables false
theorem sum_ones : ∀ l : List (List UInt8), (l.map fun _ => 1).sum = l.length
  | [] => rfl
  | a :: l => by
    rw [List.map_cons, List.sum_cons, sum_ones l, List.length_cons]
    omega
theorem ord_nodup {A : Fs} (h : OrdF A) : (A.map (·.1)).Nodup := by
  refine List.pairwise_map.2 (h.imp fun {x y} hxy e => ?_)
  rw [e] at hxy
  have := bytes_asymm hxy
  rw [hxy] at this
  cases this
/-- six names at most -/
theorem six_len {K : Dk} (hO : OrdF K.A) (h : SixK K) : K.A.length ≤ 6 := by
  have h1 := sum_sub (fun _ => 1) (K.A.map (·.1)) (sixN.map (·.data.toList)) (ord_nodup hO) (fun x hx => by
    obtain ⟨p, hp, rfl⟩ := List.mem_map.1 hx
    obtain ⟨s, hs, e⟩ := h p hp
    exact List.mem_map.2 ⟨s, hs, e.symm⟩)
  rw [sum_ones, sum_ones, List.length_map, List.length_map] at h1
  exact h1
def gS : ByteArray := ⟨#[103, 111, 101, 115]⟩
def wS : ByteArray := ⟨#[119, 101, 110, 116]⟩
theorem g_name : nameS gS = true := by decide
theorem w_name : nameS wS = true := by decide
theorem gw_ne : wS.data.toList ≠ gS.data.toList := by decide
theorem six_out {K : Dk} (h : SixK K) {k : List UInt8} (hk : ∀ s ∈ sixN, s.data.toList ≠ k) : getF k K.A = none := get_none_iff.2 fun p hp e => by
  obtain ⟨s, hs, e'⟩ := h p hp
  exact hk s hs (e'.symm.trans e)
theorem six_g : ∀ s ∈ sixN, s.data.toList ≠ gS.data.toList := by simp [sixN, gS]
theorem six_w : ∀ s ∈ sixN, s.data.toList ≠ wS.data.toList := by simp [sixN, wS]
def lo : Option Fl → Nat
  | none => 0
  | some x => x.bs.length
theorem tot_del {k : List UInt8} {A : Fs} (hO : OrdF A) : totF (delF k A) + lo (getF k A) = totF A := by
  cases h : getF k A with
  | none => rw [del_none h]; rfl
  | some x => exact tot_del_some hO h
/-- the files goes and went, and the bytes of all others -/
structure Gw (A : Fs) (g w : Option Fl) (t : Nat) : Prop where
  ord : OrdF A
  hg : getF gS.data.toList A = g
  hw : getF wS.data.toList A = w
  ht : totF A = t + lo g + lo w
theorem Gw.putg {A : Fs} {g w : Option Fl} {t : Nat} (h : Gw A g w t) (x : Fl) : Gw (putF gS.data.toList x A) (some x) w t := by
  refine ⟨ord_put h.ord _ _, get_put_self h.ord, (get_put_other h.ord gw_ne).trans h.hw, ?_⟩
  have h1 := tot_del (k := gS.data.toList) h.ord
  have h2 : totF (putF gS.data.toList x A) = x.bs.length + totF (delF gS.data.toList A) := tot_put
  have h3 := h.ht
  rw [h.hg] at h1
  show _ = t + x.bs.length + lo w
  omega
theorem Gw.putw {A : Fs} {g w : Option Fl} {t : Nat} (h : Gw A g w t) (x : Fl) : Gw (putF wS.data.toList x A) g (some x) t := by
  refine ⟨ord_put h.ord _ _, (get_put_other h.ord gw_ne.symm).trans h.hg, get_put_self h.ord, ?_⟩
  have h1 := tot_del (k := wS.data.toList) h.ord
  have h2 : totF (putF wS.data.toList x A) = x.bs.length + totF (delF wS.data.toList A) := tot_put
  have h3 := h.ht
  rw [h.hw] at h1
  show _ = t + lo g + x.bs.length
  omega
theorem Gw.delg {A : Fs} {g w : Option Fl} {t : Nat} (h : Gw A g w t) : Gw (delF gS.data.toList A) none w t := by
  refine ⟨ord_del h.ord _, get_del_self _ _, (get_del_other h.ord gw_ne).trans h.hw, ?_⟩
  have h1 := tot_del (k := gS.data.toList) h.ord
  have h3 := h.ht
  rw [h.hg] at h1
  show _ = t + 0 + lo w
  omega
theorem Gw.delw {A : Fs} {g w : Option Fl} {t : Nat} (h : Gw A g w t) : Gw (delF wS.data.toList A) g none t := by
  refine ⟨ord_del h.ord _, (get_del_other h.ord gw_ne.symm).trans h.hg, get_del_self _ _, ?_⟩
  have h1 := tot_del (k := wS.data.toList) h.ord
  have h3 := h.ht
  rw [h.hw] at h1
  show _ = t + lo g + 0
  omega
/-- a disk that has power and no fuse -/
def Kd (c : Int) (A : Fs) : Dk := ⟨c, A, -1, false⟩
theorem chg0 (c : Int) (A A' : Fs) : chgK (Kd c A) 0 A' = (Kd c A', 0) := by simp [chgK, Kd]
theorem chgE (c : Int) (A A' : Fs) {er : Int} (h : er ≠ 0) : chgK (Kd c A) er A' = (Kd c A, er) := by simp [chgK, Kd, h]
theorem erF_none {s : ByteArray} {c : Int} {A : Fs} (hn : nameS s = true) (hg : getF s.data.toList A = none) : erF s (Kd c A) = 31 := by
  unfold erF
  rw [if_neg (by rw [hn]; simp), if_neg (by show ¬ (getF s.data.toList A).isSome = true; rw [hg]; simp)]
theorem erF_some {s : ByteArray} {c : Int} {A : Fs} {x : Fl} (hn : nameS s = true) (hg : getF s.data.toList A = some x) : erF s (Kd c A) = 0 := by
  unfold erF
  rw [if_neg (by rw [hn]; simp), if_pos (by show (getF s.data.toList A).isSome = true; rw [hg]; rfl)]
theorem fuK (c : Int) (A : Fs) : (Kd c A).fuse ≤ 9223372036854775807 := by show (-1 : Int) ≤ _; omega
section
variable {w : World} {d N : Nat} {S : Nat → Prop} {c : Int} {A : Fs}
theorem gone_ok (h : DiskOK w d N (Kd c A) S) (hN : N < 1000000) (s : ByteArray) (hs : s.size ≤ maxLen) (hn : nameS s = true) (hg : getF s.data.toList A = none) : Calls Try.prog 33 #[.pointer (some ⟨d, 0, none⟩), .string s] w fun e w' => e = .returned (.int .i64 31) ∧ ∃ S', DiskOK w' d (N + 1) (Kd c A) S' ∧ Sep w w' S S' := by
  obtain ⟨mo, n, es, h⟩ := h
  have := remove_ok h hN (fuK c A) s hs
  rw [erF_none hn hg, chgE _ _ _ (by decide)] at this
  exact this
theorem rem_ok (h : DiskOK w d N (Kd c A) S) (hN : N < 1000000) (s : ByteArray) (hs : s.size ≤ maxLen) (hn : nameS s = true) {x : Fl} (hg : getF s.data.toList A = some x) : Calls Try.prog 33 #[.pointer (some ⟨d, 0, none⟩), .string s] w fun e w' => e = .returned (.int .i64 0) ∧ ∃ S', DiskOK w' d (N + 1) (Kd c (delF s.data.toList A)) S' ∧ Sep w w' S S' := by
  obtain ⟨mo, n, es, h⟩ := h
  have := remove_ok h hN (fuK c A) s hs
  rw [erF_some hn hg, chg0] at this
  exact this
theorem make_ok (h : DiskOK w d N (Kd c A) S) (hN : N < 1000000) (s : ByteArray) (hs : s.size ≤ maxLen) (hn : nameS s = true) (hg : getF s.data.toList A = none) (hl : A.length < 64) : Calls Try.prog 22 #[.pointer (some ⟨d, 0, none⟩), .string s] w fun e w' => e = .returned (.int .i64 0) ∧ ∃ S', DiskOK w' d (N + 1) (Kd c (putF s.data.toList ⟨[], 0⟩ A)) S' ∧ Sep w w' S S' := by
  obtain ⟨mo, n, es, h⟩ := h
  have := create_ok h hN (fuK c A) s hs
  have hw : whyK s (Kd c A) = 0 := by
    unfold whyK
    rw [if_neg (by rw [hn]; simp), if_neg (by show ¬ (getF s.data.toList A).isSome = true; rw [hg]; simp), if_neg (by show ¬ 64 ≤ A.length; omega)]
  rw [hw, chg0] at this
  exact this
theorem there_ok (h : DiskOK w d N (Kd c A) S) (hN : N < 1000000) (s : ByteArray) (hs : s.size ≤ maxLen) (hn : nameS s = true) {x : Fl} (hg : getF s.data.toList A = some x) : Calls Try.prog 22 #[.pointer (some ⟨d, 0, none⟩), .string s] w fun e w' => e = .returned (.int .i64 33) ∧ ∃ S', DiskOK w' d (N + 1) (Kd c A) S' ∧ Sep w w' S S' := by
  obtain ⟨mo, n, es, h⟩ := h
  have := create_ok h hN (fuK c A) s hs
  have hw : whyK s (Kd c A) = 33 := by
    unfold whyK
    rw [if_neg (by rw [hn]; simp), if_pos (by show (getF s.data.toList A).isSome = true; rw [hg]; rfl)]
  rw [hw, chgE _ _ _ (by decide)] at this
  exact this
theorem more_ok (h : DiskOK w d N (Kd c A) S) (hN : N < 1000000) (hc : c ≤ 1048576) (hc0 : 0 ≤ c) (ht : totF A ≤ 1048576) (s : ByteArray) (hs : s.size ≤ maxLen) (hn : nameS s = true) {x : Fl} (hg : getF s.data.toList A = some x) (pu : Option Addr) (cu : Nat) (b2 : List UInt8) (hu : BytesAt w (.slice pu b2.length cu) b2) (hus : ∀ q, (Value.slice pu b2.length cu).ownBlock = some q → q ≠ d) (hr : (b2.length : Int) ≤ c - (totF A : Int)) :
    Calls Try.prog 23 #[.pointer (some ⟨d, 0, none⟩), .string s, .slice pu b2.length cu] w fun e w' => e = .returned (.int .i64 0) ∧ ∃ S', DiskOK w' d (N + 1) (Kd c (putF s.data.toList ⟨x.bs ++ b2, x.sy⟩ A)) S' ∧ Sep w w' S S' := by
  obtain ⟨mo, n, es, h⟩ := h
  have := append_ok h hN (fuK c A) hc hc0 ht s hs pu cu b2 hu hus
  have he : erA s b2 (Kd c A) = 0 := by
    unfold erA
    rw [erF_some hn hg, if_neg (by show ¬ (_ ∧ c - (totF A : Int) < _); omega)]
  have hA : appA s b2 (Kd c A) = putF s.data.toList ⟨x.bs ++ b2, x.sy⟩ A := by
    unfold appA
    show (match getF s.data.toList A with | some x => putF s.data.toList ⟨x.bs ++ b2, x.sy⟩ A | none => A) = _
    rw [hg]
  rw [he, chg0, hA] at this
  exact this
theorem full_ok (h : DiskOK w d N (Kd c A) S) (hN : N < 1000000) (hc : c ≤ 1048576) (hc0 : 0 ≤ c) (ht : totF A ≤ 1048576) (s : ByteArray) (hs : s.size ≤ maxLen) (hn : nameS s = true) {x : Fl} (hg : getF s.data.toList A = some x) (pu : Option Addr) (cu : Nat) (b2 : List UInt8) (hu : BytesAt w (.slice pu b2.length cu) b2) (hus : ∀ q, (Value.slice pu b2.length cu).ownBlock = some q → q ≠ d) (hr : c - (totF A : Int) < (b2.length : Int)) :
    Calls Try.prog 23 #[.pointer (some ⟨d, 0, none⟩), .string s, .slice pu b2.length cu] w fun e w' => e = .returned (.int .i64 30) ∧ ∃ S', DiskOK w' d (N + 1) (Kd c A) S' ∧ Sep w w' S S' := by
  obtain ⟨mo, n, es, h⟩ := h
  have := append_ok h hN (fuK c A) hc hc0 ht s hs pu cu b2 hu hus
  have he : erA s b2 (Kd c A) = 30 := by
    unfold erA
    rw [erF_some hn hg, if_pos (by exact ⟨rfl, hr⟩)]
  rw [he, chgE _ _ _ (by decide)] at this
  exact this
theorem synd_ok (h : DiskOK w d N (Kd c A) S) (hN : N < 1000000) (s : ByteArray) (hs : s.size ≤ maxLen) (hn : nameS s = true) {x : Fl} (hg : getF s.data.toList A = some x) : Calls Try.prog 24 #[.pointer (some ⟨d, 0, none⟩), .string s] w fun e w' => e = .returned (.int .i64 0) ∧ ∃ S', DiskOK w' d (N + 1) (Kd c (putF s.data.toList ⟨x.bs, x.bs.length⟩ A)) S' ∧ Sep w w' S S' := by
  obtain ⟨mo, n, es, h⟩ := h
  have := sync_ok h hN (fuK c A) s hs
  have hA : syncA s (Kd c A) = putF s.data.toList ⟨x.bs, x.bs.length⟩ A := by
    unfold syncA
    show (match getF s.data.toList A with | some x => putF s.data.toList ⟨x.bs, x.bs.length⟩ A | none => A) = _
    rw [hg]
  rw [erF_some hn hg, chg0, hA] at this
  exact this
theorem ren_ok (h : DiskOK w d N (Kd c A) S) (hN : N < 1000000) (s t : ByteArray) (hs : s.size ≤ maxLen) (ht : t.size ≤ maxLen) (hn : nameS s = true) (hnt : nameS t = true) {x : Fl} (hg : getF s.data.toList A = some x) : Calls Try.prog 32 #[.pointer (some ⟨d, 0, none⟩), .string s, .string t] w fun e w' => e = .returned (.int .i64 0) ∧ ∃ S', DiskOK w' d (N + 1) (Kd c (putF t.data.toList x (delF s.data.toList A))) S' ∧ Sep w w' S S' := by
  obtain ⟨mo, n, es, h⟩ := h
  have := rename_ok h hN (fuK c A) s t hs ht
  have he : erR s t (Kd c A) = 0 := by
    unfold erR
    rw [if_neg (by rw [hnt]; simp), erF_some hn hg]
  have hA : renA s t (Kd c A) = putF t.data.toList x (delF s.data.toList A) := by
    unfold renA
    show (match getF s.data.toList A with | some x => putF t.data.toList x (delF s.data.toList A) | none => A) = _
    rw [hg]
  rw [he, chg0, hA] at this
  exact this
theorem renN_ok (h : DiskOK w d N (Kd c A) S) (hN : N < 1000000) (s t : ByteArray) (hs : s.size ≤ maxLen) (ht : t.size ≤ maxLen) (hn : nameS s = true) (hnt : nameS t = true) (hg : getF s.data.toList A = none) : Calls Try.prog 32 #[.pointer (some ⟨d, 0, none⟩), .string s, .string t] w fun e w' => e = .returned (.int .i64 31) ∧ ∃ S', DiskOK w' d (N + 1) (Kd c A) S' ∧ Sep w w' S S' := by
  obtain ⟨mo, n, es, h⟩ := h
  have := rename_ok h hN (fuK c A) s t hs ht
  have he : erR s t (Kd c A) = 31 := by
    unfold erR
    rw [if_neg (by rw [hnt]; simp), erF_none hn hg]
  rw [he, chgE _ _ _ (by decide)] at this
  exact this
theorem sized_ok (h : DiskOK w d N (Kd c A) S) (s : ByteArray) (hs : s.size ≤ maxLen) (hn : nameS s = true) {x : Fl} (hg : getF s.data.toList A = some x) : Calls Try.prog 35 #[.pointer (some ⟨d, 0, none⟩), .string s] w fun e w' => e = .returned (.tuple #[.int .i64 (x.bs.length : Int), .int .i64 0]) ∧ Below w.heap.size w w' := by
  obtain ⟨mo, n, es, h⟩ := h
  have := size_ok h s hs
  have hz : sizeK s (Kd c A) = ((x.bs.length : Int), 0) := by
    unfold sizeK
    rw [if_neg (by simp [Kd]), erF_some hn hg, if_pos rfl]
    show ((lenF A s.data.toList : Int), (0 : Int)) = _
    unfold lenF
    rw [hg]
  rw [hz] at this
  exact this
theorem freed_ok (h : DiskOK w d N (Kd c A) S) (hc : c ≤ 1048576) (hc0 : 0 ≤ c) (ht : totF A ≤ 1048576) : Calls Try.prog 28 #[.pointer (some ⟨d, 0, none⟩)] w fun e w' => e = .returned (.int .i64 (c - (totF A : Int))) ∧ Below w.heap.size w w' := by
  obtain ⟨mo, n, es, h⟩ := h
  exact free_ok h hc hc0 ht
end
/-- a state that was handed out, behind a change of the disk -/
theorem FilesRow.sep {W W' : World} {b e : Nat} {v : Value} {A : Fs} {S S' : Nat → Prop} (h : FilesRow W b e v A) (he : e ≤ W.heap.size) (hs : Sep W W' S S') (hS : ∀ q, S q → q < b) : FilesRow W' b e v A := by
  obtain ⟨xs, hr, hc⟩ := h
  refine ⟨xs, row_far hr (fun q hq => hs.block q (hr.lt q hq).2 (fun h' => ?_)), hc.far (fun q h1 h2 _ => hs.block q (by omega) (fun h' => ?_))⟩
  · have h1 := hS q h'
    have h2 := (hr.lt q hq).1
    omega
  · have := hS q h'
    omega
end Go.Proofs.Ytpeohbkigkfcgaa
