import Derived.Test.YtpeohbkigkfcgaaGreatDoorGAL
set_option linter.unusedVariables false
set_option linter.unusedSimpArgs false
set_option maxRecDepth 100000
set_option maxHeartbeats 16000000
namespace Go.Proofs.YtpeohbkigkfcgaaGreatDoor
open Go Go.Shelf Go.ChangeShapes Go.WideShapes Go.ChangeAt Go.RowKit Go.Maps Go.Sort
def hitF (k : List UInt8) (A : Fs) : Bool := A.any fun y => bytesBefore k y.1
theorem lit_before (a b : List UInt8) : (Lit.string a).before (.string b) = bytesBefore a b := rfl
theorem hit_snoc (k : List UInt8) (A : Fs) (y : List UInt8 × Fl) : hitF k (A ++ [y]) = (hitF k A || bytesBefore k y.1) := by simp [hitF]
theorem ins_hit {x : List UInt8 × Fl} {y : List UInt8 × Fl} : ∀ {A : Fs}, hitF x.1 A = true -> insF x (A ++ [y]) = insF x A ++ [y]
 | [], h => by simp [hitF] at h
 | a :: A, h => by
  rw [List.cons_append]
  unfold insF
  by_cases e : (Lit.string x.1).before (.string a.1) = true
  ·rw [if_pos e, if_pos e]; rfl
  ·rw [if_neg e, if_neg e, ins_hit (A := A) (by
    have h1 : bytesBefore x.1 a.1 = false := by rw [lit_before] at e; simpa using e
    simp only [hitF, List.any_cons, h1, Bool.false_or] at h
    exact h)]
   rfl
theorem ins_nohit {x : List UInt8 × Fl} : ∀ {A : Fs}, hitF x.1 A = false -> insF x A = A ++ [x]
 | [], _ => rfl
 | a :: A, h => by
  simp only [hitF, List.any_cons, Bool.or_eq_false_iff] at h
  unfold insF
  rw [lit_before, h.1, ins_nohit (A := A) h.2]
  rfl
theorem ins_here {x y : List UInt8 × Fl} : ∀ {A : Fs}, hitF x.1 A = false -> bytesBefore x.1 y.1 = true -> insF x (A ++ [y]) = (A ++ [x]) ++ [y]
 | [], _, hy => by
  show insF x [y] = [x, y]
  unfold insF
  rw [lit_before, hy]
  rfl
 | a :: A, h, hy => by
  simp only [hitF, List.any_cons, Bool.or_eq_false_iff] at h
  rw [List.cons_append]
  unfold insF
  rw [lit_before, h.1, ins_here (A := A) h.2 hy]
  rfl
def gath (x : List UInt8 × Fl) (A : Fs) : Fs := if hitF x.1 A = true then insF x A else A
theorem gath_len (x : List UInt8 × Fl) (A : Fs) : (gath x A).length <= A.length + 1 := by
 unfold gath
 split
 ·rw [len_ins]; exact Nat.le_refl _
 ·omega
theorem gath_hit {x y : List UInt8 × Fl} {A : Fs} (h : hitF x.1 A = true) : gath x (A ++ [y]) = gath x A ++ [y] := by
 unfold gath
 rw [hit_snoc, h, Bool.true_or, if_pos rfl, if_pos rfl, ins_hit h]
theorem gath_no {x y : List UInt8 × Fl} {A : Fs} (h : hitF x.1 A = false) (hy : bytesBefore x.1 y.1 = false) : gath x (A ++ [y]) = gath x A ++ [y] := by
 unfold gath
 rw [hit_snoc, h, hy]
 simp
theorem gath_here {x y : List UInt8 × Fl} {A : Fs} (h : hitF x.1 A = false) (hy : bytesBefore x.1 y.1 = true) : gath x (A ++ [y]) = (gath x A ++ [x]) ++ [y] := by
 unfold gath
 rw [hit_snoc, h, hy, ins_here h hy]
 simp
structure Gat (w1 wr : World) (U U' : Nat -> Prop) (vo : Value) (G : Fs) : Prop where
 bk : BookAt wr U' vo G
 own : ∀ q, vo.ownBlock = some q -> w1.heap.size <= q
 up : ∀ q, U q -> U' q
 dn : ∀ q, U' q -> U q \/ w1.heap.size <= q
 be : Below w1.heap.size w1 wr
theorem Gat.more {w1 wr w5 : World} {U U' : Nat -> Prop} {p : Option Addr} {m c : Nat} {G G' : Fs} {o : Obj} {p5 : Option Addr} {c5 m5 : Nat} (h : Gat w1 wr U U' (.slice p m c) G) (b5 : BookAt w5 (fun q => U' q \/ (Value.slice p5 m5 c5).ownBlock = some q) (.slice p5 m5 c5) G') (g5 : (wr.alloc o).grownBy w5 (Value.slice p m c).ownBlock) (o5 : (Value.slice p5 m5 c5).ownBlock = (Value.slice p m c).ownBlock \/ (Value.slice p5 m5 c5).ownBlock = some (wr.alloc o).heap.size) : Gat w1 w5 U (fun q => U' q \/ (Value.slice p5 m5 c5).ownBlock = some q) (.slice p5 m5 c5) G' := by
 have hz := h.be.size
 have hown : ∀ q, (Value.slice p5 m5 c5).ownBlock = some q -> w1.heap.size <= q := fun q hq => by
  rcases o5 with e5 | e5
  ·rw [e5] at hq
   exact h.own q hq
  ·rw [e5] at hq
   simp only [Option.some.injEq, World.size_alloc] at hq
   omega
 exact ⟨b5, hown, fun q hq => .inl (h.up q hq), fun q hq => hq.elim (h.dn q) (fun h' => .inr (hown q h')), Below.grown (h.be.trans ((bal (Below.refl _ _) _).mono hz)) g5 (by simp; omega) (fun j hj => h.own j hj)⟩
theorem Gat.draws {w1 wr : World} {U U' : Nat -> Prop} {vo : Value} {G : Fs} (h : Gat w1 wr U U' vo G) (n : Nat) : Gat w1 (wr.drewN n) U U' vo G := ⟨h.bk.far (fun _ _ => rfl) (Nat.le_refl _), h.own, h.up, h.dn, below_drewN h.be n⟩
theorem rput_ok {w : World} {U : Nat -> Prop} {v : Value} {l : Fs} (h : BookAt w U v l) (hl : l.length < 90) (s : ByteArray) (x : Fl) (p : Option Addr) (c : Nat) (hr : w.ownsRow 0 5 1 (.slice p x.bs.length c) x.bs.length (bcs x.bs)) (hU : ∀ q, (Value.slice p x.bs.length c).ownBlock = some q -> U q) :
  Calls Tryz.prog 204 #[v, .agg #[.string s, .slice p x.bs.length c, .int .i64 (x.sy : Int)]] w fun e w' => ∃ p' c', e = .returned (.slice p' (insF (s.data.toList, x) l).length c') /\ ∃ U', BookAt w' U' (.slice p' (insF (s.data.toList, x) l).length c') (insF (s.data.toList, x) l) /\ (∀ q, U' q -> U q \/ w.heap.size <= q) /\ Below w.heap.size w w' := by
 obtain ⟨pa, ca, rfl⟩ := h.form
 obtain ⟨L, hL⟩ : ∃ L, L = l.length := ⟨_, rfl⟩
 obtain ⟨w1, hw1⟩ : ∃ w1, w1 = w.alloc (.cells #[.string s, .slice p x.bs.length c, .int .i64 (x.sy : Int)] 82) := ⟨_, rfl⟩
 have b1 : Below w.heap.size w w1 := by rw [hw1]; exact bal (Below.refl _ _) _
 have z1 : w1.heap.size = w.heap.size + 1 := by rw [hw1]; simp
 have k0 : w1.cell? ⟨w.heap.size, 0, none⟩ = some (.string s) := by rw [hw1, World.cell?_alloc_mark]; rfl
 have k1 : w1.cell? ⟨w.heap.size, 1, none⟩ = some (.slice p x.bs.length c) := by rw [hw1, World.cell?_alloc_mark]; rfl
 have k2 : w1.cell? ⟨w.heap.size, 2, none⟩ = some (.int .i64 (x.sy : Int)) := by rw [hw1, World.cell?_alloc_mark]; rfl
 rw [<- hL] at h hl ⊢
 have HA := hide (h.below b1)
 have HR := hide (own_below hr b1)
 have UL : Hid (∀ q, U q -> q < w1.heap.size) := fun q hq => by have := h.lt q hq; omega
 have HU := hide hU; have H1 := hide hw1; have B1 := hide b1; have HL := hide hL
 clear hw1 b1 h hr hU hL
 go_enter Tryz.func204, Tryz.ntmps204
 go_wp2_with fail
 rw [<- uh H1]
 go_loopw [5, 6, 7] (fun vo ud ui wr => ∃ (i : Nat) (U' : Nat -> Prop), i <= L /\ ui = .int .i64 (i : Int) /\ ud = .bool (hitF s.data.toList (l.take i)) /\ Gat w1 wr U U' vo (gath (s.data.toList, x) (l.take i))) (fun _ _ u _ => L - (intOf u).toNat)
 case atStart => exact ⟨0, U, Nat.zero_le _, rfl, rfl, ⟨book_nil (uh UL), (fun q hq => by cases hq), fun q h => h, fun q h => .inl h, Below.refl _ _⟩⟩
 case round =>
  obtain ⟨i, U', hi, rfl, rfl, hg⟩ := hrel
  obtain ⟨po, co, rfl⟩ := hg.bk.form
  have zr := hg.be.size
  have s0 := keep1 hg.be (by omega) k0
  have s1 := keep1 hg.be (by omega) k1
  have s2 := keep1 hg.be (by omega) k2
  obtain ⟨G, hGd⟩ : ∃ G, G = gath (s.data.toList, x) (l.take i) := ⟨_, rfl⟩
  rw [<- hGd] at hg ⊢
  obtain ⟨M, hM⟩ : ∃ M, M = G.length := ⟨_, rfl⟩
  have hM1 : M <= i + 1 := by
   rw [hM, hGd]
   refine Nat.le_trans (gath_len _ _) ?_
   rw [List.length_take]
   omega
  rw [<- hM] at hg ⊢
  have HGD := hide hGd; have HM := hide hM
  have HG := hide hg
  by_cases hlt : i < L
  ·have hkx : ∃ k x, l[i]? = some (k, x) := by
    have : i < l.length := by rw [<- uh HL]; exact hlt
    exact ⟨_, _, List.getElem?_eq_getElem this⟩
   obtain ⟨ki, xi, hkx⟩ := hkx
   have htk : l.take (i + 1) = l.take i ++ [(ki, xi)] := by rw [List.take_add_one, hkx]; rfl
   obtain ⟨g, ca', pi, ci, ev, hgU, hgl, a0, a1, a2, _, ra, hraU⟩ := (uh HA).at hkx
   injection ev with ev eL ev3
   subst ev ev3
   clear eL
   have HC5 : Hid (∀ wz, Below w1.heap.size w1 wz -> (wz.cell? ⟨g, i * 3, none⟩ = some (encStr ki) /\ wz.cell? ⟨g, i * 3 + 1, none⟩ = some (.slice pi xi.bs.length ci) /\ wz.cell? ⟨g, i * 3 + 2, none⟩ = some (.int .i64 (xi.sy : Int)))) := fun wz hb => ⟨keep1 hb hgl a0, keep1 hb hgl a1, keep1 hb hgl a2⟩
   obtain ⟨e0, e1, e2⟩ := uh HC5 wr hg.be
   have HGn : Hid (∀ n, Gat w1 (wr.drewN n) U U' (.slice po M co) G) := fun n => hg.draws n
   have HBn : Hid (∀ n o, BookAt ((wr.drewN n).alloc o) U' (.slice po M co) G) := fun n o => (hg.draws n).bk.below (bal (Below.refl _ _) _)
   have HRx : Hid (∀ wz o, Below w1.heap.size w1 wz -> (wz.alloc o).ownsRow 0 5 1 (.slice p x.bs.length c) x.bs.length (bcs x.bs)) := fun wz o hb => (own_below (uh HR) hb).alloc o
   have HRi : Hid (∀ wz o, Below w1.heap.size w1 wz -> (wz.alloc o).ownsRow 0 5 1 (.slice pi xi.bs.length ci) xi.bs.length (bcs xi.bs)) := fun wz o hb => (own_below ra hb).alloc o
   have HUi := hide hraU
   have i0 : (0 : Int) <= (i : Int) := by omega
   have i1 : (i : Int) < (L : Int) := by omega
   have HTK := hide htk
   clear hg hGd hM hkx htk a0 a1 a2 ra hraU hgl hgU
   cases hd : hitF s.data.toList (l.take i) with
   | true =>
    go_wp2_with fail
    go_quiet (fail)
    go_wp2_with (first | (at_builtin; refine wpList_append_note rfl _ _ rfl (.slice po M co) U' G rfl (uh HBn nq _) (by rw [<- uh HM]; omega) wr.heap.size 1 rfl ki xi pi ci (by show ((wr.drewN nq).alloc _).cell? ⟨(wr.drewN nq).heap.size, 0, none⟩ = _; rw [World.cell?_alloc_mark]; rfl) (by show ((wr.drewN nq).alloc _).cell? ⟨(wr.drewN nq).heap.size, 1, none⟩ = _; rw [World.cell?_alloc_mark]; rfl) (by show ((wr.drewN nq).alloc _).cell? ⟨(wr.drewN nq).heap.size, 2, none⟩ = _; rw [World.cell?_alloc_mark]; rfl) (uh HRi _ _ (uh HGn nq).be) (fun q hq => (uh HGn nq).up q (uh HUi q hq)) ?_; intro p5 c5 w5 b5 g5 o5; have HG5 := hide (Gat.more (uh HGn nq) b5 g5 o5); clear b5 g5 o5))
    refine ⟨⟨i + 1, (fun q => U' q \/ (Value.slice p5 (G.length + 1) c5).ownBlock = some q), by omega, by go_num, ?_, ?_⟩, by simp [intOf]; omega⟩
    ·rw [uh HTK, hit_snoc, hd]; rfl
    ·rw [uh HTK, gath_hit hd, <- uh HGD]; exact uh HG5
   | false =>
    cases hb : bytesBefore s.data.toList ki with
    | true =>
     have hbl : Op.bytesLess s.toList ki = true := by rw [ByteArray.toList_eq, less_before]; exact hb
     go_wp2_with fail
     go_quiet (fail)
     go_wp2_with (first | (at_builtin; refine wpList_append_note rfl _ _ rfl (.slice po M co) U' G rfl (uh HBn nq _) (by rw [<- uh HM]; omega) wr.heap.size 1 rfl s.data.toList x p c (by show ((wr.drewN nq).alloc _).cell? ⟨(wr.drewN nq).heap.size, 0, none⟩ = _; rw [World.cell?_alloc_mark]; rfl) (by show ((wr.drewN nq).alloc _).cell? ⟨(wr.drewN nq).heap.size, 1, none⟩ = _; rw [World.cell?_alloc_mark]; rfl) (by show ((wr.drewN nq).alloc _).cell? ⟨(wr.drewN nq).heap.size, 2, none⟩ = _; rw [World.cell?_alloc_mark]; rfl) (uh HRx _ _ (uh HGn nq).be) (fun q hq => (uh HGn nq).up q (uh HU q hq)) ?_; intro p5 c5 w5 b5 g5 o5; have HG5 := hide (Gat.more (uh HGn nq) b5 g5 o5); obtain ⟨v0, v1, v2⟩ := uh HC5 w5 (uh HG5).be; clear b5 g5 o5) | (at_builtin; refine wpList_append_note rfl _ _ rfl (.slice p5 (G.length + 1) c5) _ (G ++ [(s.data.toList, x)]) rfl ((uh HG5).bk.below (bal (Below.refl _ _) _)) (by rw [List.length_append, <- uh HM]; simp; omega) w5.heap.size 1 rfl ki xi pi ci (by show ((w5).alloc _).cell? ⟨(w5).heap.size, 0, none⟩ = _; rw [World.cell?_alloc_mark]; rfl) (by show ((w5).alloc _).cell? ⟨(w5).heap.size, 1, none⟩ = _; rw [World.cell?_alloc_mark]; rfl) (by show ((w5).alloc _).cell? ⟨(w5).heap.size, 2, none⟩ = _; rw [World.cell?_alloc_mark]; rfl) (uh HRi _ _ (uh HG5).be) (fun q hq => (uh HG5).up q (uh HUi q hq)) ?_; intro p6 c6 w6 b6 g6 o6; have HG6 := hide (Gat.more (uh HG5) b6 g6 o6); clear b6 g6 o6))
     refine ⟨⟨i + 1, (fun q => (U' q \/ (Value.slice p5 (G.length + 1) c5).ownBlock = some q) \/ (Value.slice p6 (G.length + 1 + 1) c6).ownBlock = some q), by omega, by go_num, ?_, ?_⟩, by simp [intOf]; omega⟩
     ·rw [uh HTK, hit_snoc, hd, hb]; rfl
     ·rw [uh HTK, gath_here hd hb, <- uh HGD]; have h6 := uh HG6; rw [List.length_append] at h6; exact h6
    | false =>
     have hbl : Op.bytesLess s.toList ki = false := by rw [ByteArray.toList_eq, less_before]; exact hb
     go_wp2_with fail
     go_quiet (fail)
     go_wp2_with (first | (at_builtin; refine wpList_append_note rfl _ _ rfl (.slice po M co) U' G rfl (uh HBn nq _) (by rw [<- uh HM]; omega) wr.heap.size 1 rfl ki xi pi ci (by show ((wr.drewN nq).alloc _).cell? ⟨(wr.drewN nq).heap.size, 0, none⟩ = _; rw [World.cell?_alloc_mark]; rfl) (by show ((wr.drewN nq).alloc _).cell? ⟨(wr.drewN nq).heap.size, 1, none⟩ = _; rw [World.cell?_alloc_mark]; rfl) (by show ((wr.drewN nq).alloc _).cell? ⟨(wr.drewN nq).heap.size, 2, none⟩ = _; rw [World.cell?_alloc_mark]; rfl) (uh HRi _ _ (uh HGn nq).be) (fun q hq => (uh HGn nq).up q (uh HUi q hq)) ?_; intro p5 c5 w5 b5 g5 o5; have HG5 := hide (Gat.more (uh HGn nq) b5 g5 o5); clear b5 g5 o5))
     refine ⟨⟨i + 1, (fun q => U' q \/ (Value.slice p5 (G.length + 1) c5).ownBlock = some q), by omega, by go_num, ?_, ?_⟩, by simp [intOf]; omega⟩
     ·rw [uh HTK, hit_snoc, hd, hb]; rfl
     ·rw [uh HTK, gath_no hd hb, <- uh HGD]; exact uh HG5
  ·have hiL : i = L := by omega
   have htl : l.take i = l := by rw [hiL, uh HL, List.take_length]
   rw [htl] at hGd ⊢
   have i1 : ¬ ((i : Int) < (L : Int)) := by omega
   have HGn : Hid (∀ n, Gat w1 (wr.drewN n) U U' (.slice po M co) G) := fun n => hg.draws n
   have HBn : Hid (∀ n o, BookAt ((wr.drewN n).alloc o) U' (.slice po M co) G) := fun n o => (hg.draws n).bk.below (bal (Below.refl _ _) _)
   have HRx : Hid (∀ wz o, Below w1.heap.size w1 wz -> (wz.alloc o).ownsRow 0 5 1 (.slice p x.bs.length c) x.bs.length (bcs x.bs)) := fun wz o hb => (own_below (uh HR) hb).alloc o
   have HGE := hide hGd
   have Z1 := hide z1
   clear hg hGd hM HGD htl hiL
   cases hd : hitF s.data.toList l with
   | true =>
    go_wp2_with fail
    have eG : G = insF (s.data.toList, x) l := by rw [uh HGE]; unfold gath; rw [if_pos hd]
    go_ret
    have hg := uh HG
    have hz := uh Z1
    rw [<- eG, <- uh HM]
    exact ⟨_, _, rfl, U', hg.bk, fun q hq => (hg.dn q hq).imp id (fun h => by omega), (uh B1).trans (hg.be.mono (by omega))⟩
   | false =>
    have eG : G = l := by rw [uh HGE]; unfold gath; rw [hd]; rfl
    go_wp2_with (first | (at_builtin; refine wpList_append_note rfl _ _ rfl (.slice po M co) U' G rfl (uh HBn 0 _) (by rw [<- uh HM]; omega) wr.heap.size 1 rfl s.data.toList x p c (by show ((wr.drewN 0).alloc _).cell? ⟨(wr.drewN 0).heap.size, 0, none⟩ = _; rw [World.cell?_alloc_mark]; rfl) (by show ((wr.drewN 0).alloc _).cell? ⟨(wr.drewN 0).heap.size, 1, none⟩ = _; rw [World.cell?_alloc_mark]; rfl) (by show ((wr.drewN 0).alloc _).cell? ⟨(wr.drewN 0).heap.size, 2, none⟩ = _; rw [World.cell?_alloc_mark]; rfl) (uh HRx _ _ (uh HGn 0).be) (fun q hq => (uh HGn 0).up q (uh HU q hq)) ?_; intro p5 c5 w5 b5 g5 o5; have HG5 := hide (Gat.more (uh HGn 0) b5 g5 o5); clear b5 g5 o5))
    go_ret
    have hg := uh HG5
    have hz := uh Z1
    rw [eG] at hg
    have eI : insF (s.data.toList, x) l = l ++ [(s.data.toList, x)] := ins_nohit hd
    rw [eI, List.length_append]
    exact ⟨_, _, rfl, _, hg.bk, fun q hq => (hg.dn q hq).imp id (fun h => by omega), (uh B1).trans (hg.be.mono (by omega))⟩
theorem idx_get {k : List UInt8} : ∀ {l : Fs} (m : Nat), (getF k l = none -> idxF k l m = -1) /\ (∀ x, getF k l = some x -> ∃ i, l[i]? = some (k, x) /\ idxF k l m = ((m + i : Nat) : Int))
 | [], m => ⟨fun _ => rfl, fun x h => by simp [getF] at h⟩
 | p :: l, m => by
  by_cases e : p.1 = k
  ·have hg : getF k (p :: l) = some p.2 := by simp [getF, e]
   refine ⟨fun h => by (rw [hg] at h; cases h), fun x h => ⟨0, ?_, ?_⟩⟩
   ·rw [hg] at h
    cases h
    rw [<- e]
    rfl
   ·rw [idxF, if_pos e]; rfl
  ·have hg : getF k (p :: l) = getF k l := by simp [getF, e]
   have ih := idx_get (k := k) (l := l) (m + 1)
   rw [hg]
   refine ⟨fun h => by (rw [idxF, if_neg e]; exact ih.1 h), fun x h => ?_⟩
   obtain ⟨i, h1, h2⟩ := ih.2 x h
   exact ⟨i + 1, h1, by rw [idxF, if_neg e, h2]; congr 1; omega⟩
theorem chg_no {K : Dk} {A' : Fs} (hd : K.down = false) (hp : (powK K).2 = false) : chgK K 0 A' = ((powK K).1, 34) := by
 unfold powK at hp ⊢
 unfold chgK
 rw [if_neg (by rw [hd]; simp), if_neg (by simp)]
 split
 ·rfl
 ·rename_i h0
  rw [if_neg h0] at hp
  cases hp
theorem chg_yes {K : Dk} {A' : Fs} (hd : K.down = false) (hp : (powK K).2 = true) : chgK K 0 A' = ({ (powK K).1 with A := A' }, 0) := by
 unfold powK at hp ⊢
 unfold chgK
 rw [if_neg (by rw [hd]; simp), if_neg (by simp)]
 split
 ·rename_i h0
  rw [if_pos h0] at hp
  cases hp
 ·rfl
theorem pow_A (K : Dk) : (powK K).1.A = K.A := by unfold powK; split <;> rfl
theorem chg_er {K : Dk} {A' : Fs} {er : Int} (hd : K.down = false) (he : er ≠ 0) : chgK K er A' = (K, er) := by
 unfold chgK
 rw [if_neg (by rw [hd]; simp), if_pos he]
theorem chg_down {K : Dk} {A' : Fs} {er : Int} (hd : K.down = true) : chgK K er A' = (K, 34) := by
 unfold chgK
 rw [if_pos hd]
theorem RefIs.anew {w1 w2 : World} {r : Nat} {K : Dk} {V V0 U' : Nat -> Prop} {v v' : Value} {A' : Fs} (h : RefIs w1 r K V V0 v) (hb : BookAt w2 U' v' A') (hu : ∀ q, U' q -> V0 q \/ w1.heap.size <= q) (hbe : Below w1.heap.size w1 w2) : RefIs (w2.setCell ⟨r, 1, none⟩ v') r { K with A := A' } (fun q => V q \/ U' q) U' v' /\ Sep w1 (w2.setCell ⟨r, 1, none⟩ v') V (fun q => V q \/ U' q) := by
 have hr := h.vl r h.vr
 have h2 : RefIs w2 r K V V0 v := h.far (fun q hq => hbe.block q (h.vl q hq)) hbe.size
 refine ⟨h2.files hb (fun hq => ?_) (fun q hq => .inr hq) (.inl h.vr) (fun q hq => ?_), ?_⟩
 ·rcases hu r hq with h' | h'
  ·exact h.out h'
  ·omega
 ·rcases hq with hq | hq
  ·exact h2.vl q hq
  ·exact hb.lt q hq
 ·have s1 : Sep w1 w2 V V := Sep.of_below V hbe
  have s2 := s1.trans (Sep.cell w2 V r 1 v' h.vr)
  refine ⟨s2.os, s2.tape, s2.output, s2.size, s2.block, fun q hq => ?_⟩
  rcases hq with hq | hq
  ·exact .inl hq
  ·rcases hu q hq with h' | h'
   ·exact .inl (h.sub q h')
   ·exact .inr h'
theorem rcreate_ok {w : World} {r : Nat} {K : Dk} {V : Nat -> Prop} (h : RefOK w r K V) (hl : K.A.length <= 64) (hf : K.fuse <= 9223372036854775807) (hf0 : -9223372036854775808 <= K.fuse) (s : ByteArray) (hs : s.size <= 9223372036854775806) :
  Calls Tryz.prog 98 #[.pointer (some ⟨r, 0, none⟩), .string s] w fun e w' => e = .returned (.int .i64 (chgK K (whyK s K) (newA s K)).2) /\ ∃ V', RefOK w' r (chgK K (whyK s K) (newA s K)).1 V' /\ Sep w w' V V' := by
 have HA := hide (rat_ok h (by omega) s)
 have HN := hide (rname_ok s hs w)
 have HK := hide h
 obtain ⟨V0, v, h⟩ := h
 obtain ⟨pa, ca, rfl⟩ := h.bk.form
 have HP := hide (rpower_ok h hf hf0)
 have c1 := h.c1
 have c3 := h.c3
 obtain ⟨L, hL⟩ : ∃ L, L = K.A.length := ⟨_, rfl⟩
 rw [<- hL] at c1 hl h HP
 have HL := hide hL
 have HF := hide (And.intro hf hf0)
 clear hf hf0
 cases hd : K.down with
 | true =>
  rw [chg_down hd]
  rw [hd] at c3
  clear h hL hl c1
  go_enter Tryz.func98, Tryz.ntmps98
  go_wp2_with fail
  go_ret
  exact ⟨rfl, V, uh HK, Sep.refl _ _⟩
 | false =>
  rw [hd] at c3
  have HD := hide hd
  clear hd
  cases hn : nameS s with
  | false =>
   have hw : whyK s K = 32 := by unfold whyK; rw [if_pos hn]
   rw [hw, chg_er (uh HD) (by decide)]
   clear h hL hl c1 hw
   go_enter Tryz.func98, Tryz.ntmps98
   go_wp2_with (first | (go_at_call 201; refine (uh HN).mono ?_; rintro e w1 ⟨rfl, hw⟩; rw [hw, hn]; clear hw w1))
   go_ret
   exact ⟨rfl, V, uh HK, Sep.refl _ _⟩
  | true =>
   cases hg : getF s.data.toList K.A with
   | some x =>
    obtain ⟨i, hi, hx⟩ := (idx_get (k := s.data.toList) (l := K.A) 0).2 x hg
    rw [Nat.zero_add] at hx
    have hw : whyK s K = 33 := by unfold whyK; rw [if_neg (by rw [hn]; simp), if_pos (by rw [hg]; rfl)]
    rw [hw, chg_er (uh HD) (by decide)]
    rw [hx] at HA
    have i0 : (0 : Int) <= (i : Int) := by omega
    clear h hL hl c1 hw hg hi hx
    go_enter Tryz.func98, Tryz.ntmps98
    go_wp2_with (first | (go_at_call 201; refine (uh HN).mono ?_; rintro e w1 ⟨rfl, hw⟩; rw [hw, hn]; clear hw w1) | (go_at_call 202; refine (uh HA).mono ?_; rintro e w1 ⟨rfl, hw⟩; rw [hw]; clear hw w1))
    go_ret
    exact ⟨rfl, V, uh HK, Sep.refl _ _⟩
   | none =>
    have hx := (idx_get (k := s.data.toList) (l := K.A) 0).1 hg
    rw [hx] at HA
    by_cases hm : 64 <= L
    ·have hw : whyK s K = 2 := by unfold whyK; rw [if_neg (by rw [hn]; simp), if_neg (by rw [hg]; simp), if_pos (by rw [<- hL]; exact hm)]
     rw [hw, chg_er (uh HD) (by decide)]
     have i0 : (64 : Int) <= (L : Int) := by omega
     clear h hL hw hg hx hm
     go_enter Tryz.func98, Tryz.ntmps98
     go_wp2_with (first | (go_at_call 201; refine (uh HN).mono ?_; rintro e w1 ⟨rfl, hw⟩; rw [hw, hn]; clear hw w1) | (go_at_call 202; refine (uh HA).mono ?_; rintro e w1 ⟨rfl, hw⟩; rw [hw]; clear hw w1))
     go_ret
     exact ⟨rfl, V, uh HK, Sep.refl _ _⟩
    ·have hw : whyK s K = 0 := by unfold whyK; rw [if_neg (by rw [hn]; simp), if_neg (by rw [hg]; simp), if_neg (by rw [<- hL]; exact hm)]
     have i0 : ¬ (64 : Int) <= (L : Int) := by omega
     rw [hw]
     cases hp : (powK K).2 with
     | false =>
      rw [chg_no (uh HD) hp]
      rw [hp] at HP
      clear h hL hw hg hx hm hp
      go_enter Tryz.func98, Tryz.ntmps98
      go_wp2_with (first | (go_at_call 201; refine (uh HN).mono ?_; rintro e w1 ⟨rfl, hw⟩; rw [hw, hn]; clear hw w1) | (go_at_call 202; refine (uh HA).mono ?_; rintro e w1 ⟨rfl, hw⟩; rw [hw]; clear hw w1) | (go_at_call 203; refine (uh HP).mono ?_; rintro e w1 ⟨rfl, hw, hs1⟩; have HW := hide hw; have HS := hide hs1; clear hw hs1))
      go_ret
      exact ⟨rfl, V, ⟨_, _, uh HW⟩, uh HS⟩
     | true =>
      rw [chg_yes (uh HD) hp]
      rw [hp] at HP
      have eN : newA s K = insF (s.data.toList, ⟨[], 0⟩) (powK K).1.A := by unfold newA putF; rw [del_none hg, pow_A]
      rw [eN]
      obtain ⟨K1, hK1⟩ : ∃ K1, K1 = (powK K).1 := ⟨_, rfl⟩
      have hL1 : K1.A.length = L := by rw [hK1, pow_A, hL]
      rw [<- hK1] at HP ⊢
      have HL1 := hide hL1
      clear h hL hw hg hx hm hp eN hK1 hL1
      go_enter Tryz.func98, Tryz.ntmps98
      go_wp2_with (first | (go_at_call 201; refine (uh HN).mono ?_; rintro e w1 ⟨rfl, hw⟩; rw [hw, hn]; clear hw w1) | (go_at_call 202; refine (uh HA).mono ?_; rintro e w1 ⟨rfl, hw⟩; rw [hw]; clear hw w1) | (go_at_call 203; refine (uh HP).mono ?_; rintro e w1 ⟨rfl, hw, hs1⟩; have d1 := hw.c1; have f1 := hw.fz 1; have HW := hide hw; have HS := hide hs1; have HT := hide (rput_ok hw.bk (by rw [uh HL1]; omega) s ⟨[], 0⟩ none 0 (World.ownsRow_nil _ _ _ _) (fun q hq => by cases hq)); clear hw hs1 c1 c3) | (go_at_call 204; refine (uh HT).mono ?_; rintro e w2 ⟨p2, c2, rfl, U2, hb2, hu2, hbe⟩; have HB := hide hb2; have HU := hide hu2; have HE := hide hbe; have d2 := keep1 hbe ((uh HW).vl r (uh HW).vr) d1; have f2 : w2.frozen? ⟨r, 1, none⟩ = false := (World.frozen?_of_block (a := ⟨r, 1, none⟩) (hbe.block r ((uh HW).vl r (uh HW).vr))).trans f1; clear hb2 hu2 hbe))
      go_ret
      have hz := (uh HW).anew (uh HB) (uh HU) (uh HE)
      exact ⟨rfl, _, ⟨_, _, hz.1⟩, (uh HS).trans hz.2⟩
theorem erase_del : ∀ {A : Fs} {j : Nat} {k : List UInt8} {x : Fl}, OrdF A -> A[j]? = some (k, x) -> A.eraseIdx j = delF k A
 | [], j, k, x, _, h => by simp at h
 | a :: A, 0, k, x, hO, h => by
  simp only [List.getElem?_cons_zero, Option.some.injEq] at h
  subst h
  unfold OrdF at hO
  rw [List.pairwise_cons] at hO
  have h1 : delF k ((k, x) :: A) = delF k A := by unfold delF; rw [List.filter_cons]; simp
  rw [h1, List.eraseIdx_cons_zero]
  refine (del_none ?_).symm
  unfold getF
  rw [Option.map_eq_none_iff, List.find?_eq_none]
  intro b hb e
  simp only [beq_iff_eq] at e
  have := hO.1 b hb
  rw [e, Go.WideAt.bytes_irrefl] at this
  cases this
 | a :: A, j + 1, k, x, hO, h => by
  simp only [List.getElem?_cons_succ] at h
  unfold OrdF at hO
  rw [List.pairwise_cons] at hO
  have hb := hO.1 _ (List.mem_of_getElem? h)
  have hne : (a.1 == k) = false := by
   rw [beq_eq_false_iff_ne]
   intro e
   rw [e, Go.WideAt.bytes_irrefl] at hb
   cases hb
  have hd : delF k (a :: A) = a :: delF k A := by unfold delF; rw [List.filter_cons, hne]; rfl
  rw [hd, List.eraseIdx_cons_succ, erase_del hO.2 h]
theorem there_er {s : ByteArray} {K : Dk} (h : erF s K ≠ 0) : thereK s K = (0, erF s K) := by
 unfold erF at h ⊢
 unfold thereK
 cases hn : nameS s with
 | false => rfl
 | true =>
  rw [hn] at h
  cases hg : getF s.data.toList K.A with
  | some x => rw [hg] at h; exact absurd rfl h
  | none => rw [(idx_get (k := s.data.toList) (l := K.A) 0).1 hg]; rfl
theorem there_ok {s : ByteArray} {K : Dk} (h : erF s K = 0) : ∃ (i : Nat) (x : Fl), K.A[i]? = some (s.data.toList, x) /\ getF s.data.toList K.A = some x /\ thereK s K = ((i : Int), 0) := by
 unfold erF at h
 unfold thereK
 cases hn : nameS s with
 | false => rw [hn] at h; simp at h
 | true =>
  rw [hn] at h
  cases hg : getF s.data.toList K.A with
  | none => rw [hg] at h; simp at h
  | some x =>
   obtain ⟨i, h1, h2⟩ := (idx_get (k := s.data.toList) (l := K.A) 0).2 x hg
   rw [Nat.zero_add] at h2
   refine ⟨i, x, h1, rfl, ?_⟩
   rw [h2]
   have : ¬ ((i : Int) < 0) := by omega
   simp [this]
theorem rdown_ok {w : World} {r : Nat} {K : Dk} {V : Nat -> Prop} (h : RefOK w r K V) :
  Calls Tryz.prog 121 #[.pointer (some ⟨r, 0, none⟩)] w fun e w' => e = .returned (.bool K.down) /\ w' = w := by
 obtain ⟨V0, v, h⟩ := h
 have c3 := h.c3
 clear h
 go_enter Tryz.func121, Tryz.ntmps121
 go_wp2_with fail
 go_ret
 exact ⟨rfl, rfl⟩
theorem rremove_ok {w : World} {r : Nat} {K : Dk} {V : Nat -> Prop} (h : RefOK w r K V) (hl : K.A.length <= 64) (hO : OrdF K.A) (hf : K.fuse <= 9223372036854775807) (hf0 : -9223372036854775808 <= K.fuse) (s : ByteArray) (hs : s.size <= 9223372036854775806) :
  Calls Tryz.prog 105 #[.pointer (some ⟨r, 0, none⟩), .string s] w fun e w' => e = .returned (.int .i64 (chgK K (erF s K) (delF s.data.toList K.A)).2) /\ ∃ V', RefOK w' r (chgK K (erF s K) (delF s.data.toList K.A)).1 V' /\ Sep w w' V V' := by
 have HA := hide (rthere_ok h (by omega) s hs)
 have HK := hide h
 obtain ⟨V0, v, h⟩ := h
 obtain ⟨pa, ca, rfl⟩ := h.bk.form
 have HP := hide (rpower_ok h hf hf0)
 have c1 := h.c1
 have c3 := h.c3
 obtain ⟨L, hL⟩ : ∃ L, L = K.A.length := ⟨_, rfl⟩
 rw [<- hL] at c1 hl h HP
 have HL := hide hL
 clear hf hf0
 cases hd : K.down with
 | true =>
  rw [chg_down hd]
  rw [hd] at c3
  clear h hL hl c1 hO
  go_enter Tryz.func105, Tryz.ntmps105
  go_wp2_with fail
  go_ret
  exact ⟨rfl, V, uh HK, Sep.refl _ _⟩
 | false =>
  rw [hd] at c3
  have HD := hide hd
  clear hd
  by_cases he : erF s K = 0
  ·obtain ⟨i, x, hi, hg, hT⟩ := there_ok he
   rw [hT] at HA
   have hiL : i < L := by rw [hL]; exact (List.getElem?_eq_some_iff.1 hi).1
   rw [he]
   cases hp : (powK K).2 with
   | false =>
    rw [chg_no (uh HD) hp]
    rw [hp] at HP
    clear h hL he hT hg hi hp hO hiL
    go_enter Tryz.func105, Tryz.ntmps105
    go_wp2_with (first | (go_at_call 205; refine (uh HA).mono ?_; rintro e w1 ⟨rfl, hw⟩; rw [hw]; clear hw w1) | (go_at_call 203; refine (uh HP).mono ?_; rintro e w1 ⟨rfl, hw, hs1⟩; have HW := hide hw; have HS := hide hs1; clear hw hs1))
    go_ret
    exact ⟨rfl, V, ⟨_, _, uh HW⟩, uh HS⟩
   | true =>
    rw [chg_yes (uh HD) hp]
    rw [hp] at HP
    have eN : delF s.data.toList K.A = (powK K).1.A.eraseIdx i := by rw [pow_A, erase_del hO hi]
    rw [eN]
    obtain ⟨K1, hK1⟩ : ∃ K1, K1 = (powK K).1 := ⟨_, rfl⟩
    have hL1 : K1.A.length = L := by rw [hK1, pow_A, hL]
    rw [<- hK1] at HP ⊢
    have HL1 := hide hL1
    have HiL := hide hiL
    clear h hL he hT hg hi hp eN hK1 hL1 hO hiL
    go_enter Tryz.func105, Tryz.ntmps105
    go_wp2_with (first | (go_at_call 205; refine (uh HA).mono ?_; rintro e w1 ⟨rfl, hw⟩; rw [hw]; clear hw w1) | (go_at_call 203; refine (uh HP).mono ?_; rintro e w1 ⟨rfl, hw, hs1⟩; have d1 := hw.c1; have f1 := hw.fz 1; have HW := hide hw; have HS := hide hs1; have HT := hide (rwithout_ok hw.bk (by rw [uh HL1]; omega) i (by have := uh HiL; omega)); clear hw hs1 c1 c3) | (go_at_call 209; refine (uh HT).mono ?_; rintro e w2 ⟨p2, c2, rfl, U2, hb2, hu2, hbe⟩; have HB := hide hb2; have HU := hide hu2; have HE := hide hbe; have d2 := keep1 hbe ((uh HW).vl r (uh HW).vr) d1; have f2 : w2.frozen? ⟨r, 1, none⟩ = false := (World.frozen?_of_block (a := ⟨r, 1, none⟩) (hbe.block r ((uh HW).vl r (uh HW).vr))).trans f1; clear hb2 hu2 hbe))
    go_ret
    have hz := (uh HW).anew (uh HB) (uh HU) (uh HE)
    exact ⟨rfl, _, ⟨_, _, hz.1⟩, (uh HS).trans hz.2⟩
  ·rw [chg_er (uh HD) he]
   rw [there_er he] at HA
   obtain ⟨er, her⟩ : ∃ er, er = erF s K := ⟨_, rfl⟩
   rw [<- her] at HA he ⊢
   clear h hL hl c1 hO her
   go_enter Tryz.func105, Tryz.ntmps105
   go_wp2_with (first | (go_at_call 205; refine (uh HA).mono ?_; rintro e w1 ⟨rfl, hw⟩; rw [hw]; clear hw w1))
   go_ret
   exact ⟨rfl, V, uh HK, Sep.refl _ _⟩
theorem rsize_ok {w : World} {r : Nat} {K : Dk} {V : Nat -> Prop} (h : RefOK w r K V) (hl : K.A.length <= 64) (s : ByteArray) (hs : s.size <= 9223372036854775806) :
  Calls Tryz.prog 115 #[.pointer (some ⟨r, 0, none⟩), .string s] w fun e w' => e = .returned (.tuple #[.int .i64 (sizeK s K).1, .int .i64 (sizeK s K).2]) /\ w' = w := by
 have HA := hide (rthere_ok h (by omega) s hs)
 obtain ⟨V0, v, h⟩ := h
 obtain ⟨pa, ca, rfl⟩ := h.bk.form
 have c1 := h.c1
 have c3 := h.c3
 obtain ⟨L, hL⟩ : ∃ L, L = K.A.length := ⟨_, rfl⟩
 rw [<- hL] at c1 hl h
 have HL := hide hL
 cases hd : K.down with
 | true =>
  have hz : sizeK s K = (0, 34) := by unfold sizeK; rw [if_pos hd]
  rw [hz]
  rw [hd] at c3
  clear h hL hl c1 hz
  go_enter Tryz.func115, Tryz.ntmps115
  go_wp2_with fail
  go_ret2
  exact ⟨rfl, rfl⟩
 | false =>
  rw [hd] at c3
  by_cases he : erF s K = 0
  ·obtain ⟨i, x, hi, hg, hT⟩ := there_ok he
   rw [hT] at HA
   have hiL : i < L := by rw [hL]; exact (List.getElem?_eq_some_iff.1 hi).1
   have hz : sizeK s K = ((x.bs.length : Int), 0) := by unfold sizeK lenF; simp [hd, he, hg]
   rw [hz]
   obtain ⟨g, ca', pi, ci, ev, hgU, hgl, a0, a1, a2, _, ra, hraU⟩ := h.bk.at hi
   rw [<- hL] at ev
   injection ev with ev eL ev3
   subst ev ev3
   clear eL
   have i0 : (0 : Int) <= (i : Int) := by omega
   have i1 : (i : Int) < (L : Int) := by omega
   clear h hL he hT hg hi hz hiL a0 a2 ra hraU hgl hgU hd
   go_enter Tryz.func115, Tryz.ntmps115
   go_wp2_with (first | (go_at_call 205; refine (uh HA).mono ?_; rintro e w1 ⟨rfl, hw⟩; rw [hw]; clear hw w1))
   go_ret2
   exact ⟨rfl, rfl⟩
  ·have hz : sizeK s K = (0, erF s K) := by unfold sizeK; simp [hd, he]
   rw [hz]
   rw [there_er he] at HA
   obtain ⟨er, her⟩ : ∃ er, er = erF s K := ⟨_, rfl⟩
   rw [<- her] at HA he ⊢
   clear h hL hl c1 her hz hd
   go_enter Tryz.func115, Tryz.ntmps115
   go_wp2_with (first | (go_at_call 205; refine (uh HA).mono ?_; rintro e w1 ⟨rfl, hw⟩; rw [hw]; clear hw w1))
   go_ret2
   exact ⟨rfl, rfl⟩
theorem rfuse_ok {w : World} {r : Nat} {K : Dk} {V : Nat -> Prop} (h : RefOK w r K V) (x : Int) :
  Calls Tryz.prog 107 #[.pointer (some ⟨r, 0, none⟩), .int .i64 x] w fun e w' => e = .returned (.int .i64 (fuseK K x).2) /\ RefOK w' r (fuseK K x).1 V /\ Sep w w' V V := by
 have HK := hide h
 obtain ⟨V0, v, h⟩ := h
 have c2 := h.c2
 have c3 := h.c3
 have f2 := h.fz 2
 have HH := hide h
 clear h
 by_cases h1 : -1 <= x
 ·by_cases h2 : x <= 1048576
  ·have hx : canBe (-1) x = true := by unfold canBe; rw [decide_eq_true h1, decide_eq_true h2]; rfl
   have g1 : ¬ x < -1 := by omega
   have g2 : ¬ 1048576 < x := by omega
   cases hd : K.down with
   | true =>
    have hk : fuseK K x = (K, 34) := by unfold fuseK; rw [if_neg (by rw [hx]; simp), if_pos hd]
    rw [hk]
    rw [hd] at c3
    clear hk hx
    go_enter Tryz.func107, Tryz.ntmps107
    go_wp2_with fail
    go_ret
    exact ⟨rfl, uh HK, Sep.refl _ _⟩
   | false =>
    have hk : fuseK K x = ({ K with fuse := x }, 0) := by unfold fuseK; rw [if_neg (by rw [hx]; simp), if_neg (by rw [hd]; simp)]
    rw [hk]
    rw [hd] at c3
    clear hk hx
    go_enter Tryz.func107, Tryz.ntmps107
    go_wp2_with fail
    go_ret
    have hz := (uh HH).fuse x
    rw [hd] at hz
    exact ⟨rfl, ⟨_, _, hz⟩, Sep.cell w V r 2 _ (uh HH).vr⟩
  ·have hx : canBe (-1) x = false := by unfold canBe; rw [decide_eq_false h2]; simp
   have hk : fuseK K x = (K, 1) := by unfold fuseK; rw [if_pos hx]
   have g1 : ¬ x < -1 := by omega
   have g2 : 1048576 < x := by omega
   rw [hk]
   clear hk hx h2
   go_enter Tryz.func107, Tryz.ntmps107
   go_wp2_with fail
   go_ret
   exact ⟨rfl, uh HK, Sep.refl _ _⟩
 ·have hx : canBe (-1) x = false := by unfold canBe; rw [decide_eq_false h1]; rfl
  have hk : fuseK K x = (K, 1) := by unfold fuseK; rw [if_pos hx]
  have g1 : x < -1 := by omega
  rw [hk]
  clear hk hx h1
  go_enter Tryz.func107, Tryz.ntmps107
  go_wp2_with fail
  go_ret
  exact ⟨rfl, uh HK, Sep.refl _ _⟩
theorem tot_take {l : Fs} {i : Nat} {p : List UInt8 × Fl} (h : l[i]? = some p) : totF (l.take (i + 1)) = totF (l.take i) + p.2.bs.length := by
 rw [List.take_add_one, h]
 unfold totF
 simp
theorem tot_le (l : Fs) (i : Nat) : totF (l.take i) <= totF l := by
 have : totF l = totF (l.take i) + totF (l.drop i) := by
  unfold totF
  rw [<- List.sum_append, <- List.map_append, List.take_append_drop]
 omega
theorem rbytes_ok {w : World} {U : Nat -> Prop} {v : Value} {l : Fs} (h : BookAt w U v l) (hl : l.length <= 100000) (ht : totF l <= 9223372036854775807) (x y : Int) (b : Bool) :
  Calls Tryz.prog 206 #[.agg #[.int .i64 x, v, .int .i64 y, .bool b]] w fun e w' => e = .returned (.int .i64 (totF l : Int)) /\ Below w.heap.size w w' := by
 obtain ⟨pa, ca, rfl⟩ := h.form
 obtain ⟨L, hL⟩ : ∃ L, L = l.length := ⟨_, rfl⟩
 rw [<- hL] at h hl ⊢
 obtain ⟨w1, hw1⟩ : ∃ w1, w1 = w.alloc (.cells #[.int .i64 x, .slice pa L ca, .int .i64 y, .bool b] 59) := ⟨_, rfl⟩
 have b1 : Below w.heap.size w w1 := by rw [hw1]; exact bal (Below.refl _ _) _
 have k1 : w1.cell? ⟨w.heap.size, 1, none⟩ = some (.slice pa L ca) := by rw [hw1, World.cell?_alloc_mark]; rfl
 have HA := hide (h.below b1)
 have H1 := hide hw1; have B1 := hide b1; have HL := hide hL; have HTT := hide ht
 clear hw1 b1 h hL ht
 go_enter Tryz.func206, Tryz.ntmps206
 go_wp2_with fail
 rw [<- uh H1]
 go_loopw [3, 4] (fun un ui wr => ∃ i : Nat, i <= L /\ ui = .int .i64 (i : Int) /\ un = .int .i64 (totF (l.take i) : Int) /\ wr = w1) (fun _ u _ => L - (intOf u).toNat)
 case atStart => exact ⟨0, Nat.zero_le _, rfl, rfl, rfl⟩
 case round =>
  obtain ⟨i, hi, rfl, rfl, rfl⟩ := hrel
  by_cases hlt : i < L
  ·have hkx : ∃ k x, l[i]? = some (k, x) := by
    have : i < l.length := by rw [<- uh HL]; exact hlt
    exact ⟨_, _, List.getElem?_eq_getElem this⟩
   obtain ⟨ki, xi, hkx⟩ := hkx
   have htk : totF (l.take (i + 1)) = totF (l.take i) + xi.bs.length := tot_take hkx
   have hle := tot_le l (i + 1)
   have hle2 := uh HTT
   obtain ⟨g, ca', pi, ci, ev, hgU, hgl, a0, a1, a2, _, ra, hraU⟩ := (uh HA).at hkx
   injection ev with ev eL ev3
   subst ev ev3
   clear eL
   have i0 : (0 : Int) <= (i : Int) := by omega
   have i1 : (i : Int) < (L : Int) := by omega
   obtain ⟨T, hT⟩ : ∃ T, T = totF (l.take i) := ⟨_, rfl⟩
   rw [<- hT] at htk ⊢
   have s0 : -9223372036854775808 <= (T : Int) + (xi.bs.length : Int) := by omega
   have s1 : (T : Int) + (xi.bs.length : Int) <= 9223372036854775807 := by omega
   have HTK := hide htk
   clear hkx htk hle hle2 a0 a2 ra hraU hgl hgU hT
   go_wp2_with fail
   refine ⟨⟨i + 1, by omega, by go_num, ?_, trivial⟩, by simp [intOf]; omega⟩
   rw [uh HTK]
   go_num
  ·have j1 : ¬ (i : Int) < (L : Int) := by omega
   have hd : l.take i = l := List.take_of_length_le (by rw [<- uh HL]; omega)
   rw [hd]
   clear hd
   go_wp2_with fail
   go_ret
   exact ⟨rfl, uh B1⟩
theorem RefIs.row {W : World} {r g j : Nat} {K : Dk} {V V0 : Nat -> Prop} {v u : Value} {A' : Fs} (h : RefIs W r K V V0 v) (hg : V0 g) (hb : BookAt (W.setCell ⟨g, j, none⟩ u) V0 v A') : RefIs (W.setCell ⟨g, j, none⟩ u) r { K with A := A' } V V0 v := by
 have hne : r ≠ g := fun e => h.out (by rw [e]; exact hg)
 have hq := Below.heap_setCell W ⟨g, j, none⟩ u r hne
 exact ⟨(World.cell?_of_block (a := ⟨r, 0, none⟩) hq).trans h.c0, (World.cell?_of_block (a := ⟨r, 1, none⟩) hq).trans h.c1, (World.cell?_of_block (a := ⟨r, 2, none⟩) hq).trans h.c2, (World.cell?_of_block (a := ⟨r, 3, none⟩) hq).trans h.c3, fun j => (World.frozen?_of_block (a := ⟨r, j, none⟩) hq).trans (h.fz j), hb, h.sub, h.out, h.vr, fun q hq' => by simpa using h.vl q hq'⟩
theorem rsync_ok {w : World} {r : Nat} {K : Dk} {V : Nat -> Prop} (h : RefOK w r K V) (hl : K.A.length <= 64) (hO : OrdF K.A) (hf : K.fuse <= 9223372036854775807) (hf0 : -9223372036854775808 <= K.fuse) (s : ByteArray) (hs : s.size <= 9223372036854775806) :
  Calls Tryz.prog 101 #[.pointer (some ⟨r, 0, none⟩), .string s] w fun e w' => e = .returned (.int .i64 (chgK K (erF s K) (syncA s K)).2) /\ ∃ V', RefOK w' r (chgK K (erF s K) (syncA s K)).1 V' /\ Sep w w' V V' := by
 have HA := hide (rthere_ok h (by omega) s hs)
 have HK := hide h
 obtain ⟨V0, v, h⟩ := h
 obtain ⟨pa, ca, rfl⟩ := h.bk.form
 have HP := hide (rpower_ok h hf hf0)
 have c1 := h.c1
 have c3 := h.c3
 obtain ⟨L, hL⟩ : ∃ L, L = K.A.length := ⟨_, rfl⟩
 rw [<- hL] at c1 hl h HP
 have HL := hide hL
 clear hf hf0
 cases hd : K.down with
 | true =>
  rw [chg_down hd]
  rw [hd] at c3
  clear h hL hl c1 hO
  go_enter Tryz.func101, Tryz.ntmps101
  go_wp2_with fail
  go_ret
  exact ⟨rfl, V, uh HK, Sep.refl _ _⟩
 | false =>
  rw [hd] at c3
  have HD := hide hd
  clear hd
  by_cases he : erF s K = 0
  ·obtain ⟨i, x, hi, hg, hT⟩ := there_ok he
   rw [hT] at HA
   have hiL : i < L := by rw [hL]; exact (List.getElem?_eq_some_iff.1 hi).1
   rw [he]
   cases hp : (powK K).2 with
   | false =>
    rw [chg_no (uh HD) hp]
    rw [hp] at HP
    clear h hL he hT hg hi hp hO hiL
    go_enter Tryz.func101, Tryz.ntmps101
    go_wp2_with (first | (go_at_call 205; refine (uh HA).mono ?_; rintro e w1 ⟨rfl, hw⟩; rw [hw]; clear hw w1) | (go_at_call 203; refine (uh HP).mono ?_; rintro e w1 ⟨rfl, hw, hs1⟩; have HW := hide hw; have HS := hide hs1; clear hw hs1))
    go_ret
    exact ⟨rfl, V, ⟨_, _, uh HW⟩, uh HS⟩
   | true =>
    rw [chg_yes (uh HD) hp]
    rw [hp] at HP
    have eN : syncA s K = (powK K).1.A.set i (s.data.toList, ⟨x.bs, x.bs.length⟩) := by unfold syncA; rw [hg, pow_A]; exact put_set _ hO hi
    rw [eN]
    rw [<- pow_A K] at hi
    obtain ⟨K1, hK1⟩ : ∃ K1, K1 = (powK K).1 := ⟨_, rfl⟩
    have hL1 : L = K1.A.length := by rw [hK1, pow_A, hL]
    rw [<- hK1] at HP hi ⊢
    have HL1 := hide hL1
    have HI := hide hi
    have i0 : (0 : Int) <= (i : Int) := by omega
    have i1 : (i : Int) < (L : Int) := by omega
    clear h hL he hT hg hi hp eN hK1 hL1 hO hiL
    go_enter Tryz.func101, Tryz.ntmps101
    go_wp2_with (first | (go_at_call 205; refine (uh HA).mono ?_; rintro e w1 ⟨rfl, hw⟩; rw [hw]; clear hw w1) | (go_at_call 203; refine (uh HP).mono ?_; rintro e w1 ⟨rfl, hw, hs1⟩; have HW := hide hw; have HS := hide hs1; clear hw hs1 c1 c3))
    obtain ⟨g, ca', pi, ci, ev, hgU, hgl, a0, a1, a2, af, ra, hraU⟩ := (uh HW).bk.at (uh HI)
    rw [<- uh HL1] at ev
    injection ev with ev eL ev3
    subst ev ev3
    clear eL
    have d1 := (uh HW).c1
    have f2 := af (i * 3 + 2)
    have HGU := hide hgU
    clear a0 ra hraU hgl af hgU
    go_region
    all_goals
     go_wp2_with fail
     go_ret
     have hb := (uh HW).bk
     rw [uh HL1] at hb
     have hz := (uh HW).row (uh HGU) (by rw [uh HL1]; exact hb.sync (uh HI) x.bs.length)
     exact ⟨rfl, V, ⟨_, _, hz.far (fun _ _ => rfl) (Nat.le_refl _)⟩, (uh HS).trans ((Sep.cell _ V g _ _ ((uh HW).sub g (uh HGU))).trans (Sep.of_below V (below_drewN (Below.refl _ _) 1)))⟩
  ·rw [chg_er (uh HD) he]
   rw [there_er he] at HA
   obtain ⟨er, her⟩ : ∃ er, er = erF s K := ⟨_, rfl⟩
   rw [<- her] at HA he ⊢
   clear h hL hl c1 hO her
   go_enter Tryz.func101, Tryz.ntmps101
   go_wp2_with (first | (go_at_call 205; refine (uh HA).mono ?_; rintro e w1 ⟨rfl, hw⟩; rw [hw]; clear hw w1))
   go_ret
   exact ⟨rfl, V, uh HK, Sep.refl _ _⟩
theorem rnew_is (x : Int) (w : World) (f : Int) (b : Bool) : RefIs (w.alloc (.cells #[.int .i64 x, .slice none 0 0, .int .i64 f, .bool b] 92)) w.heap.size ⟨x, [], f, b⟩ (fun q => q = w.heap.size) (fun _ => False) (.slice none 0 0) :=
 ⟨by simp, by simp, by simp, by simp, fun j => by simp, book_nil (fun q hq => hq.elim), fun q hq => hq.elim, fun hq => hq, rfl, fun q hq => by subst hq; simp⟩
theorem rnew_ok (x : Int) (hx : canBe 0 x = true) (w : World) : Calls Tryz.prog 91 #[.int .i64 x] w fun e w' => e = .returned (.tuple #[.pointer (some ⟨w.heap.size, 0, none⟩), .int .i64 0]) /\ RefOK w' w.heap.size ⟨x, [], -1, false⟩ (fun q => q = w.heap.size) /\ Below w.heap.size w w' := by
 unfold canBe at hx
 rw [Bool.and_eq_true, decide_eq_true_eq, decide_eq_true_eq] at hx
 have g1 : ¬ x < 0 := by omega
 have g2 : ¬ 1048576 < x := by omega
 clear hx
 go_enter Tryz.func91, Tryz.ntmps91
 go_wp2_with fail
 go_ret2
 exact ⟨rfl, ⟨_, _, rnew_is x w (-1) false⟩, (Below.refl _ w).alloc (Nat.le_refl _) _⟩
theorem rnew_no (x : Int) (hx : canBe 0 x = false) (w : World) : Calls Tryz.prog 91 #[.int .i64 x] w fun e w' => e = .returned (.tuple #[.pointer none, .int .i64 1]) /\ w' = w := by
 by_cases g1 : x < 0
 ·go_enter Tryz.func91, Tryz.ntmps91
  go_wp2_with fail
  go_ret2
  exact ⟨rfl, rfl⟩
 ·have g2 : 1048576 < x := by
   refine Int.not_le.1 (fun h2 => ?_)
   have h1 : 0 <= x := by omega
   unfold canBe at hx
   rw [decide_eq_true h1, decide_eq_true h2] at hx
   cases hx
  clear hx
  go_enter Tryz.func91, Tryz.ntmps91
  go_wp2_with fail
  go_ret2
  exact ⟨rfl, rfl⟩
theorem rfree_ok {w : World} {r : Nat} {K : Dk} {V : Nat -> Prop} (h : RefOK w r K V) (hl : K.A.length <= 64) (hc : K.cap <= 1048576) (hc0 : 0 <= K.cap) (ht : totF K.A <= 1048576) :
  Calls Tryz.prog 120 #[.pointer (some ⟨r, 0, none⟩)] w fun e w' => e = .returned (.int .i64 (K.cap - (totF K.A : Int))) /\ Below w.heap.size w w' := by
 obtain ⟨V0, v, h⟩ := h
 have hrl := h.vl r h.vr
 have p0 : ∀ P : Bel w, P.W.cell? ⟨r, 0, none⟩ = some (.int .i64 K.cap) := fun P => keep1 P.h hrl h.c0
 have p1 : ∀ P : Bel w, P.W.cell? ⟨r, 1, none⟩ = some v := fun P => keep1 P.h hrl h.c1
 have p2 : ∀ P : Bel w, P.W.cell? ⟨r, 2, none⟩ = some (.int .i64 K.fuse) := fun P => keep1 P.h hrl h.c2
 have p3 : ∀ P : Bel w, P.W.cell? ⟨r, 3, none⟩ = some (.bool K.down) := fun P => keep1 P.h hrl h.c3
 have HB : Hid (∀ P : Bel w, Calls Tryz.prog 206 #[.agg #[.int .i64 K.cap, v, .int .i64 K.fuse, .bool K.down]] P.W fun e w'' => e = .returned (.int .i64 (totF K.A : Int)) /\ ∃ q : Bel w, w'' = q.W) := fun P =>
  (rbytes_ok (h.bk.below P.h) (by omega) (by omega) _ _ _).mono (fun e w' ⟨h1, h2⟩ => ⟨h1, ⟨w', P.h.trans (h2.mono P.h.size)⟩, rfl⟩)
 obtain ⟨T, hT⟩ : ∃ T, T = totF K.A := ⟨_, rfl⟩
 obtain ⟨C, hC⟩ : ∃ C, C = K.cap := ⟨_, rfl⟩
 rw [<- hT] at HB ht ⊢
 rw [<- hC] at HB hc hc0 p0 ⊢
 clear h hT hC hl hrl
 have s0 : -9223372036854775808 <= C - (T : Int) := by omega
 have s1 : C - (T : Int) <= 9223372036854775807 := by omega
 go_enter Tryz.func120, Tryz.ntmps120
 go_wp2_with fail
 refine wp_region_quiet_below (by kernel_rfl) (by kernel_rfl) ?_
 repeat (quiet_step (first | (go_at_call 206; refine uh HB _)))
 refine wpQuiet_nil ?_
 rintro _ ⟨P, rfl⟩
 go_wp2_with fail
 go_ret
 have hwr : IntKind.i64.wrap (C - (T : Int)) = C - (T : Int) := by rw [IntKind.wrap_i64]; omega
 refine ⟨?_, P.h⟩
 show Ending.returned (Value.int .i64 (IntKind.i64.wrap (C - (T : Int)))) = _
 rw [hwr]
end Go.Proofs.YtpeohbkigkfcgaaGreatDoor
