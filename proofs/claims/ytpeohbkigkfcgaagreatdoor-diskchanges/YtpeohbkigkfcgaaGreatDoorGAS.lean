import Derived.Test.YtpeohbkigkfcgaaGreatDoorGAR
import Derived.Test.YtpeohbkigkfcgaaGreatDoorGAN
set_option linter.unusedVariables false
set_option linter.unusedSimpArgs false
set_option maxRecDepth 100000
set_option maxHeartbeats 16000000
namespace Go.Proofs.YtpeohbkigkfcgaaGreatDoor
open Go Go.Shelf Go.ChangeShapes Go.WideShapes Go.ChangeAt Go.RowKit Go.Maps Go.Sort
theorem rcrash_none {w : World} {r : Nat} {K : Dk} {V V0 : Nat -> Prop} {pa : Option Addr} {ca : Nat} (h : RefIs w r K V V0 (.slice pa 0 ca)) (hA : K.A = []) (v : Value) (ks : List Int) :
  Calls Tryz.prog 109 #[.pointer (some ⟨r, 0, none⟩), v] w fun e w' => (∃ v, e = .returned v) /\ ∃ V', RefOK w' r (crashK ks K) V' /\ Sep w w' V V' := by
 have c1 := h.c1
 have f2 := h.fz 2
 have f3 := h.fz 3
 have f3a : ∀ u, (w.setCell ⟨r, 2, none⟩ u).frozen? ⟨r, 3, none⟩ = false := fun u => frozen_set f3 _ _
 have c2 := h.c2
 have c3 := h.c3
 have c3a : ∀ u, (w.setCell ⟨r, 2, none⟩ u).cell? ⟨r, 3, none⟩ = some (.bool K.down) := fun u => (World.cell?_setCell_other w ⟨r, 2, none⟩ ⟨r, 3, none⟩ u (by simp)).trans c3
 have hz := (h.fuse (-1)).downs false
 have hs2 := (Sep.cell w V r 2 (.int .i64 (-1)) h.vr).trans (Sep.cell _ V r 3 (.bool false) h.vr)
 have hk : crashK ks K = ⟨K.cap, K.A, -1, false⟩ := by unfold crashK; rw [hA]; rfl
 have HZ : Hid (∃ V', RefOK ((w.setCell ⟨r, 2, none⟩ (.int .i64 (-1))).setCell ⟨r, 3, none⟩ (.bool false)) r (crashK ks K) V' /\ Sep w ((w.setCell ⟨r, 2, none⟩ (.int .i64 (-1))).setCell ⟨r, 3, none⟩ (.bool false)) V V') := ⟨V, ⟨V0, _, by rw [hk]; exact hz⟩, hs2⟩
 clear hz hs2 h hA hk
 go_enter Tryz.func109, Tryz.ntmps109
 go_wp2_with fail
 go_loopw [4] (fun u wr => u = .int .i64 0 /\ wr = w) (fun u _ => 0)
 case atStart => exact ⟨rfl, rfl⟩
 case round =>
  obtain ⟨rfl, rfl⟩ := hrel
  go_wp2_with fail
  go_end0
  exact ⟨⟨_, rfl⟩, uh HZ⟩
theorem rcrash_ok {w : World} {r : Nat} {K : Dk} {V : Nat -> Prop} (h : RefOK w r K V) (hI : Inv K) (pk : Option Addr) (ck : Nat) (ks : List Int) (hk : ks ≠ [] -> KsAt w (.slice pk ks.length ck) ks) (hks : ks ≠ [] -> ∀ q, (Value.slice pk ks.length ck).ownBlock = some q -> ¬ V q) (hkl : ks.length <= 4000000000000000000) :
  Calls Tryz.prog 109 #[.pointer (some ⟨r, 0, none⟩), .slice pk ks.length ck] w fun e w' => (∃ v, e = .returned v) /\ ∃ V', RefOK w' r (crashK ks K) V' /\ Sep w w' V V' := by
 obtain ⟨V0, v, h⟩ := h
 by_cases hA : K.A = []
 ·obtain ⟨pa, ca, rfl⟩ := h.bk.form
  rw [hA] at h
  exact rcrash_none h hA _ ks
 ·obtain ⟨⟨k, x⟩, l, hc⟩ := List.exists_cons_of_ne_nil hA
  have h0 : K.A[0]? = some (k, x) := by rw [hc]; rfl
  obtain ⟨g, cap, p, c, hv, hg, _⟩ := h.bk.at h0
  subst hv
  exact rcrash_some h hg hI pk ck ks hk hks hkl
structure FV where
 nm : ByteArray
 bs : List UInt8
 sy : Int
def FV.fl (f : FV) : List UInt8 × Fl := (f.nm.data.toList, ⟨f.bs, f.sy.toNat⟩)
def FilesIn (W : World) (pv : Option Addr) (l : List FV) : Prop :=
 l ≠ [] -> ∃ b off, pv = some ⟨b, off, none⟩ /\ ∀ i f, l[i]? = some f -> ∃ p c, W.cell? ⟨b, off + i * 3, none⟩ = some (.string f.nm) /\ W.cell? ⟨b, off + i * 3 + 1, none⟩ = some (.slice p f.bs.length c) /\ W.cell? ⟨b, off + i * 3 + 2, none⟩ = some (.int .i64 f.sy) /\ BytesIn W (.slice p f.bs.length c) f.bs
theorem FilesIn.below {W W' : World} {pv : Option Addr} {l : List FV} (h0 : FilesIn W pv l) (hb : Below W.heap.size W W') : FilesIn W' pv l := fun hne => by
 obtain ⟨b, off, rfl, h⟩ := h0 hne
 refine ⟨b, off, rfl, fun i f hi => ?_⟩
 obtain ⟨p, c, h0, h1, h2, h3⟩ := h i f hi
 exact ⟨p, c, keep1 hb (World.block_lt_of_cell? W _ h0) h0, keep1 hb (World.block_lt_of_cell? W _ h1) h1, keep1 hb (World.block_lt_of_cell? W _ h2) h2, h3.below hb⟩
theorem ret_copied {tmps : Array Value} {w : World} {b : Nat} {a1 a3 : Int} {p : Option Addr} {m c : Nat} {a4 : Bool} (hp : tmps[2]?.getD undef = .pointer (some ⟨b, 0, none⟩)) (h0 : w.cell? ⟨b, 0, none⟩ = some (.int .i64 a1)) (h1 : w.cell? ⟨b, 1, none⟩ = some (.slice p m c)) (h2 : w.cell? ⟨b, 2, none⟩ = some (.int .i64 a3)) (h3 : w.cell? ⟨b, 3, none⟩ = some (.bool a4)) :
  (results Tryz.f50 tmps).run Tryz.prog w = .ok (.agg #[.int .i64 a1, .slice p m c, .int .i64 a3, .bool a4]) w := by
 simp [results, hp, asAddr, go_sem, h0, h1, h2, h3]
theorem rcopied_ok {w : World} (cap fuse : Int) (down : Bool) (pa : Option Addr) (ca : Nat) (l : List FV) (hin : FilesIn w pa l) (hl : l.length <= 64) (hbl : ∀ f ∈ l, f.bs.length <= 1048576) (hsy : ∀ f ∈ l, 0 <= f.sy) :
  Calls Tryz.prog 50 #[.agg #[.int .i64 cap, .slice pa l.length ca, .int .i64 fuse, .bool down]] w fun e w' => (∃ v, e = .returned (.agg #[.int .i64 cap, v, .int .i64 fuse, .bool down]) /\ ∃ b, w.heap.size <= b /\ FilesRow w' b w'.heap.size v (l.map FV.fl)) /\ Below w.heap.size w w' := by
 have HIN := hide hin
 have HBL := hide hbl
 have HSY := hide hsy
 obtain ⟨L, hL⟩ : ∃ L, L = l.length := ⟨_, rfl⟩
 rw [<- hL] at hl ⊢
 have HL := hide hL
 obtain ⟨K, hK⟩ : ∃ K : Dk, K = ⟨cap, l.map FV.fl, fuse, down⟩ := ⟨_, rfl⟩
 have HKA : Hid (K.A = l.map FV.fl) := by rw [hK]; rfl
 have HLA : Hid (L = K.A.length) := by rw [uh HKA, List.length_map]; exact hL
 obtain ⟨w3, hw3⟩ : ∃ w3, w3 = ((w.alloc (.cells #[.int .i64 cap, .slice pa L ca, .int .i64 fuse, .bool down] 59)).alloc (.cells #[.int .i64 0, .slice none 0 0, .int .i64 0, .bool false] 59)).alloc (.cells #[.int .i64 cap, .slice none 0 0, .int .i64 fuse, .bool down] 59) := ⟨_, rfl⟩
 have B3 : Hid (Below w.heap.size w w3) := by rw [hw3]; exact bal (bal (bal (Below.refl w.heap.size w) _) _) _
 have hz3 : w3.heap.size = w.heap.size + 1 + 1 + 1 := by rw [hw3]; simp
 have hP3 : w3.heap[w.heap.size]? = some (.cells #[.int .i64 cap, .slice pa L ca, .int .i64 fuse, .bool down] 59) := by
  rw [hw3]
  exact (Below.heap_alloc _ _ _ (by simp; omega)).trans ((Below.heap_alloc _ _ _ (by simp)).trans (heap_alloc_new w _))
 have hR3 : w3.heap[w.heap.size + 1]? = some (.cells #[.int .i64 0, .slice none 0 0, .int .i64 0, .bool false] 59) := by
  rw [hw3]
  have h1 := heap_alloc_new (w.alloc (.cells #[.int .i64 cap, .slice pa L ca, .int .i64 fuse, .bool down] 59)) (.cells #[.int .i64 0, .slice none 0 0, .int .i64 0, .bool false] 59)
  rw [World.size_alloc] at h1
  exact (Below.heap_alloc _ _ _ (by simp)).trans h1
 have hB3 : w3.heap[w.heap.size + 2]? = some (.cells #[.int .i64 K.cap, .slice none 0 0, .int .i64 K.fuse, .bool K.down] 59) := by
  rw [hw3, hK]
  have h1 := heap_alloc_new ((w.alloc (.cells #[.int .i64 cap, .slice pa L ca, .int .i64 fuse, .bool down] 59)).alloc (.cells #[.int .i64 0, .slice none 0 0, .int .i64 0, .bool false] 59)) (.cells #[.int .i64 cap, .slice none 0 0, .int .i64 fuse, .bool down] 59)
  rw [World.size_alloc, World.size_alloc] at h1
  exact h1
 have S0 : Hid (StW w3 w3 (w.heap.size + 2) K 0 (.slice none 0 0)) := ⟨rfl, rfl, rfl, Nat.le_refl _, fun _ _ _ => rfl, hB3, ⟨[], by rw [List.take_zero]; exact World.ownsRow_nil _ _ _ _, by rw [List.take_zero]; exact .nil (Nat.le_refl _)⟩⟩
 have HP3 := hide hP3
 have HR3 := hide hR3
 have H3 := hide hw3
 have HKC : Hid (K.cap = cap /\ K.fuse = fuse /\ K.down = down) := by rw [hK]; exact ⟨rfl, rfl, rfl⟩
 clear hin hbl hsy hL hK hP3 hR3 hB3 hw3
 go_enter Tryz.func50, Tryz.ntmps50
 go_wp2_with fail
 rw [<- uh H3]
 go_loopw [4] (fun u wr => ∃ (j : Nat) (v : Value), j <= L /\ u = .int .i64 (j : Int) /\ StW w3 wr (w.heap.size + 2) K j v) (fun u _ => L - (intOf u).toNat)
 case atStart => exact ⟨0, _, Nat.zero_le _, rfl, uh S0⟩
 case round =>
  obtain ⟨j, v, hj, rfl, hst⟩ := hrel
  obtain ⟨pv, cv, rfl⟩ := hst.form (by rw [<- uh HLA]; exact hj)
  have hPw : wr.heap[w.heap.size]? = _ := (hst.block w.heap.size (by omega) (by omega)).trans (uh HP3)
  have c1 := cell_of_own hPw 1
  simp only [List.getElem?_toArray, List.getElem?_cons_succ, List.getElem?_cons_zero] at c1
  by_cases hlt : j < L
  ·have hf : ∃ f, l[j]? = some f := ⟨_, List.getElem?_eq_getElem (by rw [<- uh HL]; exact hlt)⟩
   obtain ⟨f, hf⟩ := hf
   have hfm := List.mem_of_getElem? hf
   have hfbl := uh HBL f hfm
   have hfsy := uh HSY f hfm
   have hbw := hst.below (uh B3) (by omega)
   obtain ⟨b, off, rfl, hcells⟩ := (uh HIN).below hbw (List.ne_nil_of_mem hfm)
   obtain ⟨pi, ci, g0, g1, g2, gby⟩ := hcells j f hf
   have hkx : K.A[j]? = some f.fl := by rw [uh HKA, List.getElem?_map, hf]; rfl
   obtain ⟨nm, bs, sy⟩ := f
   simp only [FV.fl] at hkx
   simp only at g0 g1 g2 gby hfbl hfsy
   have hesy : ((sy.toNat : Nat) : Int) = sy := Int.toNat_of_nonneg hfsy
   have hes : encStr nm.data.toList = .string nm := encStr_data nm
   have i0 : (0 : Int) <= (j : Int) := by omega
   have i1 : (j : Int) < (L : Int) := by omega
   have hBl : w.heap.size + 2 < w3.heap.size := by omega
   obtain ⟨xs, hrow, hsc⟩ := hst.fr
   rw [List.length_take, Nat.min_eq_left (by rw [<- uh HLA]; exact hj)] at hrow
   have hvb : ∀ r, (Value.slice pv j cv).ownBlock = some r -> w3.heap.size <= r /\ r < wr.heap.size := fun r hr => hrow.lt r hr
   have hwr := hst.size
   obtain ⟨X, hX⟩ : ∃ X, X = bs.length := ⟨_, rfl⟩
   rw [<- hX] at g1 gby hfbl
   obtain ⟨w4, hw4⟩ : ∃ w4, w4 = wr.alloc (.cells #[.string nm, .slice pi X ci, .int .i64 sy] 82) := ⟨_, rfl⟩
   have hz4 : w4.heap.size = wr.heap.size + 1 := by rw [hw4]; simp
   have b4 : Below wr.heap.size wr w4 := by rw [hw4]; exact bal (Below.refl _ _) _
   have kf0 : w4.cell? ⟨wr.heap.size, 0, none⟩ = some (.string nm) := by rw [hw4]; simp
   have kf1 : w4.cell? ⟨wr.heap.size, 1, none⟩ = some (.slice pi X ci) := by rw [hw4]; simp
   have kf2 : w4.cell? ⟨wr.heap.size, 2, none⟩ = some (.int .i64 sy) := by rw [hw4]; simp
   have own4 := (b4.block (w.heap.size + 2) (by omega)).trans hst.own
   have kB : w4.cell? ⟨w.heap.size + 2, 1, none⟩ = some (.slice pv j cv) := cell_of_own own4 1
   have fB : w4.frozen? ⟨w.heap.size + 2, 1, none⟩ = false := frozen_of_own own4 1
   have H5 : Hid (∀ w5, Below w4.heap.size w4 w5 -> (w5.cell? ⟨w.heap.size + 2, 1, none⟩ = some (.slice pv j cv) /\ w5.cell? ⟨wr.heap.size, 0, none⟩ = some (.string nm) /\ w5.cell? ⟨wr.heap.size, 1, none⟩ = some (.slice pi X ci) /\ w5.cell? ⟨wr.heap.size, 2, none⟩ = some (.int .i64 sy))) := fun w5 hb => ⟨keep1 hb (by omega) kB, keep1 hb (by omega) kf0, keep1 hb (by omega) kf1, keep1 hb (by omega) kf2⟩
   have H5a : Hid (∀ w5 o, Below w4.heap.size w4 w5 -> ((w5.alloc o).cell? ⟨w.heap.size + 2, 1, none⟩ = some (.slice pv j cv) /\ (w5.alloc o).cell? ⟨wr.heap.size, 0, none⟩ = some (.string nm) /\ (w5.alloc o).cell? ⟨wr.heap.size, 1, none⟩ = some (.slice pi X ci) /\ (w5.alloc o).cell? ⟨wr.heap.size, 2, none⟩ = some (.int .i64 sy))) := fun w5 o hb => uh H5 _ (bal hb o)
   have H6 : Hid (∀ w5 o6 w6, Below w4.heap.size w4 w5 -> (w5.alloc o6).grownBy w6 (Value.slice pv j cv).ownBlock -> (w6.cell? ⟨w.heap.size + 2, 1, none⟩ = some (.slice pv j cv) /\ w6.cell? ⟨wr.heap.size, 0, none⟩ = some (.string nm) /\ w6.cell? ⟨wr.heap.size, 1, none⟩ = some (.slice pi X ci) /\ w6.cell? ⟨wr.heap.size, 2, none⟩ = some (.int .i64 sy) /\ w6.frozen? ⟨w.heap.size + 2, 1, none⟩ = false)) := fun w5 o6 w6 hb hg => by
    have h5 := hb.size
    have e1 : w6.heap[wr.heap.size]? = w4.heap[wr.heap.size]? := (own_far hg (by rw [World.size_alloc]; omega) (fun r hr => by have := (hvb r hr).2; omega)).trans ((Below.heap_alloc _ _ _ (by omega)).trans (hb.block _ (by omega)))
    have e2 : w6.heap[w.heap.size + 2]? = w4.heap[w.heap.size + 2]? := (own_far hg (by rw [World.size_alloc]; omega) (fun r hr => by have := (hvb r hr).1; omega)).trans ((Below.heap_alloc _ _ _ (by omega)).trans (hb.block _ (by omega)))
    exact ⟨(World.cell?_of_block (a := ⟨w.heap.size + 2, 1, none⟩) e2).trans kB, (World.cell?_of_block (a := ⟨wr.heap.size, 0, none⟩) e1).trans kf0, (World.cell?_of_block (a := ⟨wr.heap.size, 1, none⟩) e1).trans kf1, (World.cell?_of_block (a := ⟨wr.heap.size, 2, none⟩) e1).trans kf2, (World.frozen?_of_block (a := ⟨w.heap.size + 2, 1, none⟩) e2).trans fB⟩
   have HO5 : Hid (∀ w5 o6, Below w4.heap.size w4 w5 -> (w5.alloc o6).ownsRow w3.heap.size 82 3 (.slice pv j cv) j xs) := fun w5 o6 hb => row_far hrow (fun q hq => by
    have h2 := (hvb q hq).2
    have h5 := hb.size
    exact (Below.heap_alloc _ _ _ (by omega)).trans ((hb.block _ (by omega)).trans (b4.block _ (by omega))))
   have HS5 : Hid (∀ (p2 : Option Addr) (c2 : Nat) (w5 : World), w5.ownsRow 0 5 1 (.slice p2 bs.length c2) bs.length (bcs bs) -> (((Value.slice p2 bs.length c2).ownBlock = (Value.slice (some ⟨w4.heap.size, 0, none⟩) 0 0).ownBlock /\ (w4.drew.alloc (.cells #[] 5)).grownBy w5 (Value.slice (some ⟨w4.heap.size, 0, none⟩) 0 0).ownBlock) \/ ((Value.slice p2 bs.length c2).ownBlock = some (w4.drew.alloc (.cells #[] 5)).heap.size /\ (w4.drew.alloc (.cells #[] 5)).grownBy w5 none)) -> (w5.cell? ⟨w.heap.size + 2, 1, none⟩ = some (.slice pv j cv) /\ w5.cell? ⟨wr.heap.size, 0, none⟩ = some (.string nm) /\ w5.cell? ⟨wr.heap.size, 1, none⟩ = some (.slice pi X ci) /\ w5.cell? ⟨wr.heap.size, 2, none⟩ = some (.int .i64 sy)) /\ Hid (w5.ownsRow w4.heap.size 5 1 (.slice p2 bs.length c2) bs.length (bcs bs) /\ Below w4.heap.size w4 w5)) := fun p2 c2 w5 r5 hg => by
    have hz := fresh_fin (w := w4.drew) (N := bs.length) rfl r5 hg
    have hb : Below w4.heap.size w4 w5 := ⟨hz.2.os, hz.2.tape, hz.2.output, hz.2.size, hz.2.block⟩
    exact ⟨uh H5 w5 hb, hz.1, hb⟩
   obtain ⟨i70, hi70, hz70, hs70, hb70⟩ := info_parts info70
   have HI70 := hide hi70; have HZ70 := hide hz70; have HS70 := hide hs70; have HB70 := hide hb70
   have HRB : Hid (BytesIn (w4.drew.alloc (.cells #[] 5)) (.slice pi X ci) bs) := (gby.far (fun q hq hl => b4.block q hl)).far (fun q hq hl => Below.heap_alloc _ _ _ hl)
   have HLB : Hid (([] : List UInt8).length + bs.length <= 140737488351232) := by show _ <= _; rw [<- hX, List.length_nil]; omega
   have kBa := fun o => keep1 (bal (Below.refl w4.heap.size w4) o) (World.block_lt_of_cell? w4 _ kB) kB
   have kf0a := fun o => keep1 (bal (Below.refl w4.heap.size w4) o) (World.block_lt_of_cell? w4 _ kf0) kf0
   have kf1a := fun o => keep1 (bal (Below.refl w4.heap.size w4) o) (World.block_lt_of_cell? w4 _ kf1) kf1
   have kf2a := fun o => keep1 (bal (Below.refl w4.heap.size w4) o) (World.block_lt_of_cell? w4 _ kf2) kf2
   have H4 := hide hw4
   have HSTEP : Hid (∀ w5 o6 w6 p2 c2 v', Below w4.heap.size w4 w5 -> w5.ownsRow w4.heap.size 5 1 (.slice p2 bs.length c2) bs.length (bcs bs) -> (w5.alloc o6).grownBy w6 (Value.slice pv j cv).ownBlock -> w6.ownsRow w3.heap.size 82 3 v' (j + 1) (xs ++ [.string nm, .slice p2 bs.length c2, .int .i64 sy]) -> StW w3 (w6.setCell ⟨w.heap.size + 2, 1, none⟩ v') (w.heap.size + 2) K (j + 1) v') := by
    intro w5 o6 w6 p2 c2 v' h1 h2 h3 h4
    rw [hw4] at h1 h2
    rw [<- hes, <- hesy] at h4
    exact hst.step hBl hrow hsc hkx h1 h2 h3 h4
   clear hst hes hesy hkx hrow hsc hvb own4 hi70 hz70 hs70 hb70 b4 hX hf hfm hcells hbw hPw gby hfsy
   have HZ4 := hide hz4
   clear hw4 hz4
   go_wp2_with fail
   rw [<- uh H4]
   refine wp_region_last (n := 14) (S := fun W => W.cell? ⟨w.heap.size + 2, 1, none⟩ = some (.slice pv j cv) /\ W.cell? ⟨wr.heap.size, 0, none⟩ = some (.string nm) /\ W.cell? ⟨wr.heap.size, 1, none⟩ = some (.slice pi X ci) /\ W.cell? ⟨wr.heap.size, 2, none⟩ = some (.int .i64 sy)) (by kernel_rfl) (by first | (exact ⟨kB, kf0, kf1, kf2⟩)) (fun hHeld => ?_)
   refine tkW 0 ?_; refine tkS 1 ?_; refine tkW 2 ?_; refine tkS 3 ?_; refine tkW 5 ?_; refine tkS 6 ?_; refine tkW 8 ?_; refine tkS 9 ?_
   refine wpAnyL_one (i := 4) (by kernel_rfl) rfl (fun KK hK => ?_)
   go_simp
   refine hK.out _ _ (by first | (exact ⟨kBa _, kf0a _, kf1a _, kf2a _⟩)) (fun hHeld => ?_)
   clear hK KK
   refine wpAnyL_one (i := 7) (by kernel_rfl) rfl (fun KK hK => ?_)
   refine step_append_i _ (by rfl) _ _ (by rfl) (.slice (some ⟨w4.heap.size, 0, none⟩) 0 0) [] (by rfl) (row_none w4.drew) (.slice pi X ci) bs (by first | rfl | (simp [Act.eval]; done)) (uh HRB) (uh HLB) bs rfl ?_
   intro p2 c2 w5 r5 r5' hg5
   obtain ⟨⟨s0, s1, s2, s3⟩, R5⟩ := uh HS5 p2 c2 w5 r5 hg5
   have HB5 : Hid (Below w4.heap.size w4 w5) := (uh R5).2
   clear r5 r5' hg5
   refine hK.out _ _ (by first | (exact ⟨s0, s1, s2, s3⟩)) (fun hHeld => ?_)
   clear hK KK
   refine tkW 10 ?_
   refine wpAnyL_one (i := 11) (by kernel_rfl) rfl (fun KK hK => ?_)
   go_simp
   refine hK.out _ _ (by first | (exact uh H5a w5 _ (uh HB5))) (fun hHeld => ?_)
   clear hK KK
   refine wpAnyL_one (i := 12) (by kernel_rfl) rfl (fun KK hK => ?_)
   refine step_append_lies _ (by rfl) _ _ _ (by rfl) w3.heap.size 82 i70 _ 3 48 Tryz.underlying57 (uh HI70) (uh HZ70) (uh HS70) (uh HB70) rfl (by omega) (.slice pv j cv) j xs (by rfl) (uh HO5 w5 _ (uh HB5)) ⟨w5.heap.size, 0, none⟩ 1 1 [.string nm, .slice p2 bs.length c2, .int .i64 sy] (by rfl) (by rfl) (World.news_of_block (heap_alloc_new w5 _)) (one3 _ _ _ _ _) (by omega) (by unfold maxLen; omega) (by omega) (by rw [World.size_alloc]; have := (uh HB5).size; have := uh HZ4; omega) _ rfl ?_
   intro g6 cap6 w6 hown6 hgr6 hat6 hlt6
   obtain ⟨t0, t1, t2, t3, t4⟩ := uh H6 w5 _ w6 (uh HB5) hgr6
   have O6 := hide hown6
   have G6 := hide hgr6
   clear hown6 hgr6 hat6 hlt6
   refine hK.out _ _ (by first | (exact ⟨t0, t1, t2, t3⟩)) (fun hHeld => ?_)
   clear hK KK
   refine tkW 13 ?_
   refine wpAnyL_end (i := 14) (by kernel_rfl) rfl (by kernel_rfl) (by kernel_rfl) (fun KK hK => ?_)
   go_simp
   refine hK.out _ _ ?_
   clear hK KK
   go_wp2_with fail
   exact ⟨⟨j + 1, _, by omega, by go_num, uh HSTEP w5 _ w6 p2 c2 _ (uh HB5) (uh R5).1 (uh G6) (uh O6)⟩, by simp [intOf]; omega⟩
  ·have hjL : j = L := by omega
   subst hjL
   have hown := hst.own
   rw [(uh HKC).1, (uh HKC).2.1, (uh HKC).2.2] at hown
   have e0 := cell_of_own hown 0
   have e1 := cell_of_own hown 1
   have e2 := cell_of_own hown 2
   have e3 := cell_of_own hown 3
   have hRw : wr.heap[w.heap.size + 1]? = _ := (hst.block (w.heap.size + 1) (by omega) (by omega)).trans (uh HR3)
   have r0 := cell_of_own hRw 0
   have r1 := cell_of_own hRw 1
   have r2 := cell_of_own hRw 2
   have r3 := cell_of_own hRw 3
   have f0 := frozen_of_own hRw 0
   have f1 := frozen_of_own hRw 1
   have f2 := frozen_of_own hRw 2
   have f3 := frozen_of_own hRw 3
   have hwl : w.heap.size + 1 < wr.heap.size := by have := hst.size; omega
   have i1 : ¬ (j : Int) < (j : Int) := by omega
   have HS := hide hst
   clear hst hown hRw hPw
   go_wp2_with fail
   refine bodyPost_ret (ret_copied (b := w.heap.size + 1) (a1 := cap) (a3 := fuse) (a4 := down) (p := pv) (m := j) (c := cv) (by rfl) (by go_simp) (by go_simp) (by go_simp) (by go_simp)) rfl ?_
   have hB := (uh HS).below (uh B3) (by omega)
   have hfar : ∀ q, w3.heap.size <= q -> ((((wr.setCell ⟨w.heap.size + 1, 0, none⟩ (.int .i64 cap)).setCell ⟨w.heap.size + 1, 1, none⟩ (.slice pv j cv)).setCell ⟨w.heap.size + 1, 2, none⟩ (.int .i64 fuse)).setCell ⟨w.heap.size + 1, 3, none⟩ (.bool down)).heap[q]? = wr.heap[q]? := fun q hq => by
    rw [Below.heap_setCell _ ⟨w.heap.size + 1, 3, none⟩ _ q (by show q ≠ w.heap.size + 1; omega), Below.heap_setCell _ ⟨w.heap.size + 1, 2, none⟩ _ q (by show q ≠ w.heap.size + 1; omega), Below.heap_setCell _ ⟨w.heap.size + 1, 1, none⟩ _ q (by show q ≠ w.heap.size + 1; omega), Below.heap_setCell _ ⟨w.heap.size + 1, 0, none⟩ _ q (by show q ≠ w.heap.size + 1; omega)]
   obtain ⟨xs, hr, hsc⟩ := (uh HS).fr
   rw [uh HLA, List.take_length] at hr hsc
   rw [<- uh HLA] at hr
   rw [<- uh HKA]
   refine ⟨⟨_, rfl, w3.heap.size, by omega, xs, by rw [<- uh HLA]; exact row_far hr (fun q hq => hfar q (hr.lt q hq).1), ?_⟩, ?_⟩
   ·have := hsc.far (fun q h1 _ _ => hfar q h1)
    simpa using this
   ·exact (((hB.setCell (p := ⟨w.heap.size + 1, 0, none⟩) (Nat.le_succ _) _).setCell (p := ⟨w.heap.size + 1, 1, none⟩) (Nat.le_succ _) _).setCell (p := ⟨w.heap.size + 1, 2, none⟩) (Nat.le_succ _) _).setCell (p := ⟨w.heap.size + 1, 3, none⟩) (Nat.le_succ _) _
theorem BookAt.in {W : World} {U : Nat -> Prop} {pv : Option Addr} {cv : Nat} {l : Fs} (h : BookAt W U (.slice pv l.length cv) l) : FilesIn W pv (l.map fun p => ⟨⟨p.1.toArray⟩, p.2.bs, (p.2.sy : Int)⟩) := fun hne => by
 have hne' : l ≠ [] := fun e => hne (by rw [e]; rfl)
 obtain ⟨⟨k0, x0⟩, l0, hc⟩ := List.exists_cons_of_ne_nil hne'
 obtain ⟨g, cap, p, c, hv, hg, _⟩ := h.at (i := 0) (k := k0) (x := x0) (by rw [hc]; rfl)
 injection hv with hv _ hv2
 subst hv
 refine ⟨g, 0, rfl, fun i f hi => ?_⟩
 rw [List.getElem?_map] at hi
 cases hli : l[i]? with
 | none => rw [hli] at hi; cases hi
 | some q =>
  rw [hli] at hi
  simp only [Option.map_some, Option.some.injEq] at hi
  subst hi
  obtain ⟨g', cap', p', c', hv', _, _, a0, a1, a2, _, ra, _⟩ := h.at (i := i) (k := q.1) (x := q.2) hli
  injection hv' with hv' _ _
  injection hv' with hv'
  injection hv' with hv'
  subst hv'
  exact ⟨p', c', by rw [Nat.zero_add]; exact a0, by rw [Nat.zero_add]; exact a1, by rw [Nat.zero_add]; exact a2, (BytesAt.of_row ra).in⟩
theorem fl_back (l : Fs) : (l.map fun p => (⟨⟨p.1.toArray⟩, p.2.bs, (p.2.sy : Int)⟩ : FV)).map FV.fl = l := by
 rw [List.map_map]
 refine (List.map_congr_left (fun p _ => ?_)).trans (List.map_id l)
 obtain ⟨k, bs, sy⟩ := p
 simp [FV.fl]
theorem ret_rstate {tmps : Array Value} {w : World} {b : Nat} {a1 a3 : Int} {p : Option Addr} {m c : Nat} {a4 : Bool} (hp : tmps[2]?.getD undef = .pointer (some ⟨b, 0, none⟩)) (h0 : w.cell? ⟨b, 0, none⟩ = some (.int .i64 a1)) (h1 : w.cell? ⟨b, 1, none⟩ = some (.slice p m c)) (h2 : w.cell? ⟨b, 2, none⟩ = some (.int .i64 a3)) (h3 : w.cell? ⟨b, 3, none⟩ = some (.bool a4)) :
  (results Tryz.f13 tmps).run Tryz.prog w = .ok (.agg #[.int .i64 a1, .slice p m c, .int .i64 a3, .bool a4]) w := by
 simp [results, hp, asAddr, go_sem, h0, h1, h2, h3]
theorem FilesRow.shape {W : World} {b e : Nat} {v : Value} {A : Fs} (h : FilesRow W b e v A) : ∃ p c, v = .slice p A.length c := by
 obtain ⟨xs, hr, _⟩ := h
 rcases hr.2 with ⟨h1, h2⟩ | ⟨g, cap, cur, h1, _⟩
 ·exact ⟨none, 0, by rw [h1, h2]⟩
 ·exact ⟨_, _, h1⟩
theorem rstate_ok {w : World} {r : Nat} {K : Dk} {V : Nat -> Prop} (h : RefOK w r K V) (hI : Inv K) :
  Calls Tryz.prog 13 #[.pointer (some ⟨r, 0, none⟩)] w fun e w' => (∃ v, e = .returned (.agg #[.int .i64 K.cap, v, .int .i64 K.fuse, .bool K.down]) /\ ∃ b, w.heap.size <= b /\ FilesRow w' b w'.heap.size v K.A) /\ Below w.heap.size w w' := by
 obtain ⟨V0, v, h⟩ := h
 obtain ⟨pa, ca, rfl⟩ := h.bk.form
 have hrl := h.vl r h.vr
 obtain ⟨w1, hw1⟩ : ∃ w1, w1 = w.alloc (.cells #[.int .i64 0, .slice none 0 0, .int .i64 0, .bool false] 59) := ⟨_, rfl⟩
 have b1 : Below w.heap.size w w1 := by rw [hw1]; exact bal (Below.refl _ _) _
 have hz1 : w1.heap.size = w.heap.size + 1 := by rw [hw1]; simp
 have c0 := keep1 b1 hrl h.c0
 have c1 := keep1 b1 hrl h.c1
 have c2 := keep1 b1 hrl h.c2
 have c3 := keep1 b1 hrl h.c3
 have hR1 : w1.heap[w.heap.size]? = some (.cells #[.int .i64 0, .slice none 0 0, .int .i64 0, .bool false] 59) := by rw [hw1]; exact heap_alloc_new w _
 have hbl : ∀ p ∈ K.A, p.2.bs.length <= 1048576 := fun p hp => by
  obtain ⟨i, hi, he⟩ := List.getElem_of_mem hp
  have h0 : K.A[i]? = some p := by rw [List.getElem?_eq_getElem hi, he]
  have h1 : totF (K.A.take (i + 1)) = totF (K.A.take i) + p.2.bs.length := tot_take h0
  have h2 := tot_le K.A (i + 1)
  have h3 := hI.tot
  have h4 := hI.cap1
  omega
 have HC := rcopied_ok (w := w1) K.cap K.fuse K.down pa ca _ (h.bk.below b1).in (by rw [List.length_map]; exact hI.many) (fun f hf => by
   obtain ⟨p, hp, rfl⟩ := List.mem_map.1 hf
   exact hbl p hp) (fun f hf => by
   obtain ⟨p, hp, rfl⟩ := List.mem_map.1 hf
   exact Int.natCast_nonneg _)
 rw [fl_back, List.length_map] at HC
 have HCC := hide HC
 have H1 := hide hw1
 have B1 := hide b1
 have HR := hide hR1
 obtain ⟨L, hL⟩ : ∃ L, L = K.A.length := ⟨_, rfl⟩
 rw [<- hL] at c1 HCC
 rw [hw1] at c0 c1 c2 c3 HCC
 clear HC h hI hw1 b1 hR1 hbl hL
 go_enter Tryz.func13, Tryz.ntmps13
 go_wp2_with (first | (go_at_call 50; refine (uh HCC).mono ?_; rintro e w2 ⟨⟨v2, rfl, hfr⟩, hb2⟩; rw [<- uh H1] at hfr hb2; obtain ⟨p2, m2, c2', hv2⟩ : ∃ p m c, v2 = .slice p m c := (by obtain ⟨_, _, hfr⟩ := hfr; obtain ⟨p, c, hv⟩ := hfr.shape; exact ⟨p, _, c, hv⟩); subst hv2; have HF := hide hfr; have B2 : Hid (Below w1.heap.size w1 w2) := hb2; have hz2 : w1.heap.size <= w2.heap.size := hb2.size; have hR2 := (hb2.block w.heap.size (by omega)).trans (uh HR); have q0 := cell_of_own hR2 0; have q1 := cell_of_own hR2 1; have q2 := cell_of_own hR2 2; have q3 := cell_of_own hR2 3; have f0 := frozen_of_own hR2 0; have f1 := frozen_of_own hR2 1; have f2 := frozen_of_own hR2 2; have f3 := frozen_of_own hR2 3; clear hfr hb2 hR2 c0 c1 c2 c3))
 refine bodyPost_ret (ret_rstate (b := w.heap.size) (a1 := K.cap) (a3 := K.fuse) (a4 := K.down) (p := p2) (m := m2) (c := c2') (by rfl) (by go_simp) (by go_simp) (by go_simp) (by go_simp)) rfl ?_
 have hB : Below w.heap.size w w2 := (uh B1).trans ((uh B2).mono (by omega))
 have hfar : ∀ q, w1.heap.size <= q -> ((((w2.setCell ⟨w.heap.size, 0, none⟩ (.int .i64 K.cap)).setCell ⟨w.heap.size, 1, none⟩ (.slice p2 m2 c2')).setCell ⟨w.heap.size, 2, none⟩ (.int .i64 K.fuse)).setCell ⟨w.heap.size, 3, none⟩ (.bool K.down)).heap[q]? = w2.heap[q]? := fun q hq => by
  rw [Below.heap_setCell _ ⟨w.heap.size, 3, none⟩ _ q (by show q ≠ w.heap.size; omega), Below.heap_setCell _ ⟨w.heap.size, 2, none⟩ _ q (by show q ≠ w.heap.size; omega), Below.heap_setCell _ ⟨w.heap.size, 1, none⟩ _ q (by show q ≠ w.heap.size; omega), Below.heap_setCell _ ⟨w.heap.size, 0, none⟩ _ q (by show q ≠ w.heap.size; omega)]
 obtain ⟨b, hb, xs, hr, hsc⟩ := uh HF
 refine ⟨⟨_, rfl, b, by omega, xs, row_far hr (fun q hq => hfar q (by have := (hr.lt q hq).1; omega)), ?_⟩, ?_⟩
 ·have := hsc.far (fun q h1 _ _ => hfar q (by omega))
  simpa using this
 ·exact (((hB.setCell (p := ⟨w.heap.size, 0, none⟩) (Nat.le_refl _) _).setCell (p := ⟨w.heap.size, 1, none⟩) (Nat.le_refl _) _).setCell (p := ⟨w.heap.size, 2, none⟩) (Nat.le_refl _) _).setCell (p := ⟨w.heap.size, 3, none⟩) (Nat.le_refl _) _
def totV (l : List FV) : Nat := (l.map (·.bs.length)).sum
def prevV (l : List FV) (i : Nat) : ByteArray := if i = 0 then ⟨#[]⟩ else match l[i - 1]? with
 | some f => f.nm
 | none => ⟨#[]⟩
def stepV (l : List FV) (i : Nat) : Bool := match l[i]? with
 | some f => nameS f.nm && bytesBefore (prevV l i).data.toList f.nm.data.toList && decide (0 <= f.sy) && decide (f.sy <= (f.bs.length : Int))
 | none => true
def filesV (l : List FV) : Bool := (List.range l.length).all (stepV l)
def okV (l : List FV) (cap : Int) : Bool := decide (l.length <= 64) && decide ((totV l : Int) <= cap) && filesV l
theorem totV_take {l : List FV} {i : Nat} {f : FV} (h : l[i]? = some f) : totV (l.take (i + 1)) = totV (l.take i) + f.bs.length := by
 rw [List.take_add_one, h]
 simp [totV]
theorem totV_le (l : List FV) (i : Nat) : totV (l.take i) <= totV l := by
 have : totV l = totV (l.take i) + totV (l.drop i) := by
  unfold totV
  rw [<- List.sum_append, <- List.map_append, List.take_append_drop]
 omega
theorem ok_many {l : List FV} {cap : Int} (h : 64 < l.length) : okV l cap = false := by unfold okV; rw [decide_eq_false (by omega)]; rfl
theorem ok_tot {l : List FV} {cap : Int} {i : Nat} (h : cap < (totV (l.take i) : Int)) : okV l cap = false := by
 unfold okV
 have := totV_le l i
 rw [decide_eq_false (p := (totV l : Int) <= cap) (by omega), Bool.and_false]
 rfl
theorem ok_step {l : List FV} {cap : Int} {i : Nat} (hi : i < l.length) (h : stepV l i = false) : okV l cap = false := by
 have h1 : filesV l = false := by
  unfold filesV
  rw [List.all_eq_false]
  exact ⟨i, List.mem_range.2 hi, by rw [h]; simp⟩
 unfold okV
 rw [h1, Bool.and_false]
theorem ok_all {l : List FV} {cap : Int} (h0 : l.length <= 64) (h1 : (totV l : Int) <= cap) (h2 : ∀ i, i < l.length -> stepV l i = true) : okV l cap = true := by
 unfold okV filesV
 rw [decide_eq_true h0, decide_eq_true h1, List.all_eq_true.2 (fun i hi => h2 i (List.mem_range.1 hi))]
 rfl
theorem step_name {l : List FV} {i : Nat} {f : FV} (h : l[i]? = some f) (hn : nameS f.nm = false) : stepV l i = false := by unfold stepV; rw [h]; simp [hn]
theorem step_ord {l : List FV} {i : Nat} {f : FV} (h : l[i]? = some f) (hn : bytesBefore (prevV l i).data.toList f.nm.data.toList = false) : stepV l i = false := by unfold stepV; rw [h]; simp [hn]
theorem step_neg {l : List FV} {i : Nat} {f : FV} (h : l[i]? = some f) (hn : f.sy < 0) : stepV l i = false := by unfold stepV; rw [h]; simp only; rw [decide_eq_false (p := 0 <= f.sy) (by omega), Bool.and_false, Bool.false_and]
theorem step_much {l : List FV} {i : Nat} {f : FV} (h : l[i]? = some f) (hn : (f.bs.length : Int) < f.sy) : stepV l i = false := by unfold stepV; rw [h]; simp only; rw [decide_eq_false (p := f.sy <= (f.bs.length : Int)) (by omega), Bool.and_false]
theorem step_yes {l : List FV} {i : Nat} {f : FV} (h : l[i]? = some f) (h1 : nameS f.nm = true) (h2 : bytesBefore (prevV l i).data.toList f.nm.data.toList = true) (h3 : 0 <= f.sy) (h4 : f.sy <= (f.bs.length : Int)) : stepV l i = true := by unfold stepV; rw [h]; simp [h1, h2, h3, h4]
theorem less_yes {s t : ByteArray} (h : Op.bytesLess s.toList t.toList = true) : bytesBefore t.data.toList s.data.toList = false := by
 rw [ByteArray.toList_eq, ByteArray.toList_eq, less_before] at h
 exact bytes_asymm h
theorem less_eq {s t : ByteArray} (h : (s.toList == t.toList) = true) : bytesBefore t.data.toList s.data.toList = false := by
 rw [ByteArray.toList_eq, ByteArray.toList_eq, beq_iff_eq] at h
 rw [h]
 exact Go.WideAt.bytes_irrefl _
theorem before_total : ∀ a b : List UInt8, bytesBefore a b = false -> a ≠ b -> bytesBefore b a = true
 | [], [], _, h => absurd rfl h
 | [], _ :: _, h, _ => by simp [bytesBefore] at h
 | _ :: _, [], _, _ => rfl
 | a :: x, b :: y, h, hne => by
  simp only [bytesBefore, Bool.or_eq_false_iff, Bool.and_eq_false_iff, decide_eq_false_iff_not, beq_eq_false_iff_ne] at h
  simp only [bytesBefore, Bool.or_eq_true, Bool.and_eq_true, decide_eq_true_eq, beq_iff_eq]
  by_cases e : a = b
  ·subst e
   refine .inr ⟨rfl, before_total x y (h.2.resolve_left (fun h' => h' rfl)) (fun e => hne (by rw [e]))⟩
  ·exact .inl (by
    rcases Nat.lt_trichotomy a.toNat b.toNat with h' | h' | h'
    ·exact absurd h' h.1
    ·exact absurd (UInt8.toNat_inj.1 h') e
    ·exact h')
theorem less_none {s t : ByteArray} (h1 : Op.bytesLess s.toList t.toList = false) (h2 : (s.toList == t.toList) = false) : bytesBefore t.data.toList s.data.toList = true := by
 rw [ByteArray.toList_eq, ByteArray.toList_eq, less_before] at h1
 rw [ByteArray.toList_eq, ByteArray.toList_eq, beq_eq_false_iff_ne] at h2
 exact before_total _ _ h1 h2
theorem filesCan_any {w : World} (pa : Option Addr) (ca : Nat) (l : List FV) (hin : FilesIn w pa l) (hnz : ∀ f ∈ l, f.nm.size <= 9223372036854775806) (hbl : ∀ f ∈ l, f.bs.length <= 140737488355328) (cap : Int) (hc0 : 0 <= cap) (hc1 : cap <= 1048576) :
  Calls Tryz.prog 256 #[.slice pa l.length ca, .int .i64 cap] w fun e w' => e = .returned (.bool (okV l cap)) /\ Below w.heap.size w w' := by
 obtain ⟨L, hL⟩ : ∃ L, L = l.length := ⟨_, rfl⟩
 rw [<- hL]
 by_cases hm : L <= 64
 ·have HL := hide hL
  have HIN := hide hin; have HNZ := hide hnz; have HBL := hide hbl
  clear hL hin hnz hbl
  have l0 : ¬ (64 : Int) < (L : Int) := by omega
  go_enter Tryz.func256, Tryz.ntmps256
  go_wp2_with fail
  go_loopw [1, 5, 13] (fun r s u wr => ∃ j : Nat, j <= L /\ u = .int .i64 (j : Int) /\ r = .int .i64 (cap - (totV (l.take j) : Int)) /\ s = .string (prevV l j) /\ (totV (l.take j) : Int) <= cap /\ (∀ i, i < j -> stepV l i = true) /\ Below w.heap.size w wr) (fun _ _ u _ => L - (intOf u).toNat)
  case atStart => exact ⟨0, Nat.zero_le _, rfl, by simp [totV], rfl, by simpa [totV] using hc0, fun i hi => by omega, Below.refl _ _⟩
  case round =>
  obtain ⟨j, hj, rfl, rfl, rfl, htj, hall, hbr⟩ := hrel
  have HBR := hide hbr
  have HALL := hide hall
  by_cases hlt : j < L
  ·obtain ⟨f, hf⟩ : ∃ f, l[j]? = some f := ⟨_, List.getElem?_eq_getElem (by rw [<- uh HL]; exact hlt)⟩
   have hfm := List.mem_of_getElem? hf
   have hfbl := uh HBL f hfm
   have hsz0 := uh HNZ f hfm
   obtain ⟨b, off, rfl, hcells⟩ := (uh HIN).below hbr (List.ne_nil_of_mem hfm)
   obtain ⟨p1, c1, g0, g1, g2, gby⟩ := hcells j f hf
   have HF := hide hf
   have htk := totV_take hf
   have HJL : Hid (j < l.length) := by show _ < _; rw [<- uh HL]; exact hlt
   have hln : prevV l (j + 1) = f.nm := by unfold prevV; rw [if_neg (by omega), Nat.add_sub_cancel, hf]
   have HS1 : Hid (nameS f.nm = false -> okV l cap = false) := fun h => ok_step (uh HJL) (step_name (uh HF) h)
   have HS2 : Hid (Op.bytesLess f.nm.toList (prevV l j).toList = true -> okV l cap = false) := fun h => ok_step (uh HJL) (step_ord (uh HF) (less_yes h))
   have HS3 : Hid ((f.nm.toList == (prevV l j).toList) = true -> okV l cap = false) := fun h => ok_step (uh HJL) (step_ord (uh HF) (less_eq h))
   have HS4 : Hid (f.sy < 0 -> okV l cap = false) := fun h => ok_step (uh HJL) (step_neg (uh HF) h)
   have HS5 : Hid ((f.bs.length : Int) < f.sy -> okV l cap = false) := fun h => ok_step (uh HJL) (step_much (uh HF) h)
   have HS6 : Hid (cap - (totV (l.take j) : Int) - (f.bs.length : Int) < 0 -> okV l cap = false) := fun h => ok_tot (i := j + 1) (by rw [totV_take (uh HF)]; omega)
   have HS7 : Hid (nameS f.nm = true -> Op.bytesLess f.nm.toList (prevV l j).toList = false -> (f.nm.toList == (prevV l j).toList) = false -> ¬ f.sy < 0 -> ¬ (f.bs.length : Int) < f.sy -> ∀ i, i < j + 1 -> stepV l i = true) := fun h1 h2 h3 h4 h5 i hi => by
    by_cases e : i = j
    ·subst e
     exact step_yes (uh HF) h1 (less_none h2 h3) (by omega) (by omega)
    ·exact uh HALL i (by omega)
   obtain ⟨s, bs, sy⟩ := f
   simp only at g0 g1 g2 hfbl hsz0 htk hln HS1 HS2 HS3 HS4 HS5 HS6 HS7
   obtain ⟨Tj, hTj⟩ : ∃ Tj, Tj = totV (l.take j) := ⟨_, rfl⟩
   obtain ⟨bl, hbl⟩ : ∃ bl, bl = bs.length := ⟨_, rfl⟩
   obtain ⟨la', hla'⟩ : ∃ la', la' = prevV l j := ⟨_, rfl⟩
   rw [<- hbl] at g1 htk hfbl HS5 HS6 HS7
   rw [<- hTj] at htk htj HS6 ⊢
   rw [<- hla'] at HS2 HS3 HS7 ⊢
   have HTK := hide htk; have HLN := hide hln
   have hsz : s.size <= 9223372036854775807 := by omega
   have i0 : (0 : Int) <= (j : Int) := by omega
   have i1 : (j : Int) < (L : Int) := by omega
   have y2 : -9223372036854775808 <= cap - (Tj : Int) - (bl : Int) := by omega
   have y3 : cap - (Tj : Int) - (bl : Int) <= 9223372036854775807 := by omega
   clear hbr hcells gby hf hfm hall hTj hbl hla' htk hln hsz0
   go_wp2_with fail
   obtain ⟨w4, hw4⟩ : ∃ w4, w4 = wr.alloc (.cells #[.string s, .slice p1 bl c1, .int .i64 sy] 82) := ⟨_, rfl⟩
   have b4 : Below wr.heap.size wr w4 := by rw [hw4]; exact bal (Below.refl _ _) _
   have z4 : w4.heap.size = wr.heap.size + 1 := by rw [hw4]; simp
   have q0 : w4.cell? ⟨wr.heap.size, 0, none⟩ = some (.string s) := by rw [hw4, World.cell?_alloc_mark]; rfl
   have q1 : w4.cell? ⟨wr.heap.size, 1, none⟩ = some (.slice p1 bl c1) := by rw [hw4, World.cell?_alloc_mark]; rfl
   have q2 : w4.cell? ⟨wr.heap.size, 2, none⟩ = some (.int .i64 sy) := by rw [hw4, World.cell?_alloc_mark]; rfl
   rw [<- hw4]
   clear hw4
   refine (isName_any s hsz w4).mono ?_
   rintro e w5 ⟨rfl, hb5⟩
   have r0 := keep1 hb5 (by omega) q0
   have r1 := keep1 hb5 (by omega) q1
   have r2 := keep1 hb5 (by omega) q2
   have B5 : Hid (Below w.heap.size w w5) := (uh HBR).trans ((b4.trans (hb5.mono (by omega))).mono (uh HBR).size)
   clear b4 hb5 q0 q1 q2
   cases hnm : nameS s with
   | false =>
    go_wp2_with fail
    go_ret
    rw [uh HS1 hnm]
    exact ⟨rfl, uh B5⟩
   | true =>
    cases hle : Op.bytesLess s.toList la'.toList with
    | true =>
     go_wp2_with fail
     go_ret
     rw [uh HS2 hle]
     exact ⟨rfl, uh B5⟩
    | false =>
     cases heq : (s.toList == la'.toList) with
     | true =>
      go_wp2_with fail
      go_ret
      rw [uh HS3 heq]
      exact ⟨rfl, uh B5⟩
     | false =>
      by_cases y0 : sy < 0
      ·skip
       go_wp2_with fail
       go_ret
       rw [uh HS4 y0]
       exact ⟨rfl, uh B5⟩
      ·by_cases y1 : (bl : Int) < sy
       ·skip
        go_wp2_with fail
        go_ret
        rw [uh HS5 y1]
        exact ⟨rfl, uh B5⟩
       ·by_cases y4 : cap - (Tj : Int) - (bl : Int) < 0
        ·skip
         go_wp2_with fail
         go_ret
         rw [uh HS6 y4]
         exact ⟨rfl, uh B5⟩
        ·have HNX := hide (uh HS7 hnm hle heq (by omega) (by omega))
         go_wp2_with fail
         refine ⟨⟨j + 1, by omega, by go_num, ?_, ?_, ?_, uh HNX, uh B5⟩, by simp [intOf]; omega⟩
         ·rw [uh HTK]
          congr 1
          omega
         ·rw [uh HLN]
         ·rw [uh HTK]
          omega
  ·have j1 : ¬ (j : Int) < (L : Int) := by omega
   have hjl : l.take j = l := List.take_of_length_le (by rw [<- uh HL]; omega)
   rw [hjl] at htj
   have hy : okV l cap = true := ok_all (by rw [<- uh HL]; exact hm) htj (fun i hi => hall i (by have := uh HL; omega))
   have HY := hide hy
   clear hbr hall htj hjl hy
   go_wp2_with fail
   go_ret
   rw [uh HY]
   exact ⟨rfl, uh HBR⟩
 ·have l0 : (64 : Int) < (L : Int) := by omega
  rw [ok_many (l := l) (cap := cap) (by rw [<- hL]; omega)]
  clear hL hin hnz hbl
  go_enter Tryz.func256, Tryz.ntmps256
  go_wp2_with fail
  go_ret
  exact ⟨rfl, Below.refl _ _⟩
def validV (cap : Int) (l : List FV) (fu : Int) (dn : Bool) : Bool := canBe 0 cap && canBe (-1) fu && !(dn && decide (fu ≠ -1)) && okV l cap
theorem valid_any {w : World} (cap fu : Int) (dn : Bool) (pa : Option Addr) (ca : Nat) (l : List FV) (hin : FilesIn w pa l) (hnz : ∀ f ∈ l, f.nm.size <= 9223372036854775806) (hbl : ∀ f ∈ l, f.bs.length <= 140737488355328) :
  Calls Tryz.prog 195 #[.agg #[.int .i64 cap, .slice pa l.length ca, .int .i64 fu, .bool dn]] w fun e w' => e = .returned (.bool (validV cap l fu dn)) /\ Below w.heap.size w w' := by
 obtain ⟨w1, hw1⟩ : ∃ w1, w1 = w.alloc (.cells #[.int .i64 cap, .slice pa l.length ca, .int .i64 fu, .bool dn] 59) := ⟨_, rfl⟩
 have b1 : Below w.heap.size w w1 := by rw [hw1]; exact bal (Below.refl _ _) _
 have B1 := hide b1
 cases hc : canBe 0 cap with
 | false =>
  have hv : validV cap l fu dn = false := by unfold validV; rw [hc]; rfl
  rw [hw1] at B1
  obtain ⟨L, hL⟩ : ∃ L, L = l.length := ⟨_, rfl⟩
  rw [<- hL] at B1 ⊢
  rw [hv]
  clear hw1 b1 hin hnz hbl hv hL
  go_enter Tryz.func195, Tryz.ntmps195
  go_wp2_with (first | (go_at_call 143; refine (capacity_ok _ _).mono ?_; rintro e wn ⟨rfl, hw⟩; rw [hw, hc]; clear hw wn))
  go_ret
  exact ⟨rfl, uh B1⟩
 | true =>
  cases hf : canBe (-1) fu with
  | false =>
   have hv : validV cap l fu dn = false := by unfold validV; rw [hc, hf]; rfl
   rw [hw1] at B1
   obtain ⟨L, hL⟩ : ∃ L, L = l.length := ⟨_, rfl⟩
   rw [<- hL] at B1 ⊢
   rw [hv]
   clear hw1 b1 hin hnz hbl hv hL
   go_enter Tryz.func195, Tryz.ntmps195
   go_wp2_with (first | (go_at_call 143; refine (capacity_ok _ _).mono ?_; rintro e wn ⟨rfl, hw⟩; rw [hw, hc]; clear hw wn) | (go_at_call 211; refine (fuseCan_ok _ _).mono ?_; rintro e wn ⟨rfl, hw⟩; rw [hw, hf]; clear hw wn))
   go_ret
   exact ⟨rfl, uh B1⟩
  | true =>
   have hcc := hc
   unfold canBe at hcc
   rw [Bool.and_eq_true, decide_eq_true_eq, decide_eq_true_eq] at hcc
   have HF := hide (filesCan_any pa ca l (hin.below b1) hnz hbl cap hcc.1 hcc.2)
   by_cases hdn : dn = true /\ fu ≠ -1
   ·obtain ⟨rfl, hne⟩ := hdn
    have hv : validV cap l fu true = false := by unfold validV; rw [hc, hf, decide_eq_true hne]; rfl
    rw [hw1] at B1
    obtain ⟨L, hL⟩ : ∃ L, L = l.length := ⟨_, rfl⟩
    rw [<- hL] at B1 ⊢
    rw [hv]
    clear hw1 b1 hin hnz hbl hv hL hcc HF
    go_enter Tryz.func195, Tryz.ntmps195
    go_wp2_with (first | (go_at_call 143; refine (capacity_ok _ _).mono ?_; rintro e wn ⟨rfl, hw⟩; rw [hw, hc]; clear hw wn) | (go_at_call 211; refine (fuseCan_ok _ _).mono ?_; rintro e wn ⟨rfl, hw⟩; rw [hw, hf]; clear hw wn))
    go_ret
    exact ⟨rfl, uh B1⟩
   ·have hv : validV cap l fu dn = okV l cap := by
     unfold validV
     rw [hc, hf]
     cases dn with
     | false => simp
     | true =>
      have : fu = -1 := by
       by_cases e : fu = -1
       ·exact e
       ·exact absurd ⟨rfl, e⟩ hdn
      rw [this]
      simp
    rw [hv]
    have H1 := hide hw1
    obtain ⟨L, hL⟩ : ∃ L, L = l.length := ⟨_, rfl⟩
    rw [<- hL] at HF H1 ⊢
    clear hw1 b1 hin hnz hbl hv hcc hL
    cases dn with
    | false =>
     clear hdn
     go_enter Tryz.func195, Tryz.ntmps195
     go_wp2_with (first | (go_at_call 143; refine (capacity_ok _ _).mono ?_; rintro e wn ⟨rfl, hw⟩; rw [hw, hc]; clear hw wn) | (go_at_call 211; refine (fuseCan_ok _ _).mono ?_; rintro e wn ⟨rfl, hw⟩; rw [hw, hf]; clear hw wn))
     rw [<- uh H1]
     refine (uh HF).mono ?_
     rintro e w2 ⟨rfl, hb2⟩
     have B2 : Hid (Below w.heap.size w w2) := (uh B1).trans (hb2.mono (uh B1).size)
     clear hb2
     go_wp2_with fail
     go_ret
     exact ⟨rfl, uh B2⟩
    | true =>
     have hfu : fu = -1 := by
      by_cases e : fu = -1
      ·exact e
      ·exact absurd ⟨rfl, e⟩ hdn
     subst hfu
     clear hdn
     go_enter Tryz.func195, Tryz.ntmps195
     go_wp2_with (first | (go_at_call 143; refine (capacity_ok _ _).mono ?_; rintro e wn ⟨rfl, hw⟩; rw [hw, hc]; clear hw wn) | (go_at_call 211; refine (fuseCan_ok _ _).mono ?_; rintro e wn ⟨rfl, hw⟩; rw [hw, hf]; clear hw wn))
     rw [<- uh H1]
     refine (uh HF).mono ?_
     rintro e w2 ⟨rfl, hb2⟩
     have B2 : Hid (Below w.heap.size w w2) := (uh B1).trans (hb2.mono (uh B1).size)
     clear hb2
     go_wp2_with fail
     go_ret
     exact ⟨rfl, uh B2⟩
theorem step_at {l : List FV} {i : Nat} {f : FV} (h : l[i]? = some f) (hs : stepV l i = true) : nameS f.nm = true /\ bytesBefore (prevV l i).data.toList f.nm.data.toList = true /\ 0 <= f.sy /\ f.sy <= (f.bs.length : Int) := by
 unfold stepV at hs
 rw [h] at hs
 simp only [Bool.and_eq_true, decide_eq_true_eq] at hs
 exact ⟨hs.1.1.1, hs.1.1.2, hs.1.2, hs.2⟩
theorem ok_parts {l : List FV} {cap : Int} (h : okV l cap = true) : l.length <= 64 /\ (totV l : Int) <= cap /\ ∀ i, i < l.length -> stepV l i = true := by
 unfold okV filesV at h
 rw [Bool.and_eq_true, Bool.and_eq_true, decide_eq_true_eq, decide_eq_true_eq, List.all_eq_true] at h
 exact ⟨h.1.1, h.1.2, fun i hi => h.2 i (List.mem_range.2 hi)⟩
theorem ok_ord {l : List FV} (h : ∀ i, i < l.length -> stepV l i = true) : OrdF (l.map FV.fl) := by
 have key : ∀ (d i : Nat) (hj : i + d + 1 < l.length), bytesBefore (l[i]'(by omega)).nm.data.toList (l[i + d + 1]'hj).nm.data.toList = true := by
  intro d
  induction d with
  | zero =>
   intro i hj
   have h1 := (step_at (List.getElem?_eq_getElem hj) (h _ hj)).2.1
   unfold prevV at h1
   rw [if_neg (by omega), Nat.add_sub_cancel, List.getElem?_eq_getElem (by omega)] at h1
   exact h1
  | succ d ih =>
   intro i hj
   have h0 := ih i (by omega)
   have h1 := (step_at (List.getElem?_eq_getElem hj) (h _ hj)).2.1
   unfold prevV at h1
   rw [if_neg (by omega), Nat.add_sub_cancel, List.getElem?_eq_getElem (by omega)] at h1
   exact bytes_trans _ _ _ h0 h1
 unfold OrdF
 rw [List.pairwise_map, List.pairwise_iff_getElem]
 intro i j hi hj hij
 have := key (j - i - 1) i (by omega)
 have e : i + (j - i - 1) + 1 = j := by omega
 simp only [e] at this
 exact this
theorem tot_fl (l : List FV) : totF (l.map FV.fl) = totV l := by
 unfold totF totV
 rw [List.map_map]
 rfl
theorem valid_inv {cap fu : Int} {l : List FV} {dn : Bool} (h : validV cap l fu dn = true) : Inv ⟨cap, l.map FV.fl, fu, dn⟩ /\ (dn = true -> fu = -1) /\ 0 <= cap /\ okV l cap = true := by
 unfold validV canBe at h
 simp only [Bool.and_eq_true, decide_eq_true_eq, Bool.not_eq_true', Bool.and_eq_false_iff, decide_eq_false_iff_not, Decidable.not_not] at h
 obtain ⟨⟨⟨⟨h1, h2⟩, h3, h4⟩, h5⟩, h6⟩ := h
 obtain ⟨g1, g2, g3⟩ := ok_parts h6
 refine ⟨⟨ok_ord g3, fun p hp => ?_, fun p hp => ?_, ?_, h2, h3, h4, ?_⟩, fun hd => ?_, h1, h6⟩
 ·obtain ⟨f, hf, rfl⟩ := List.mem_map.1 hp
  obtain ⟨i, hi, he⟩ := List.getElem_of_mem hf
  have := (step_at (List.getElem?_eq_getElem hi) (g3 i hi)).1
  rw [he] at this
  simpa [FV.fl] using this
 ·obtain ⟨f, hf, rfl⟩ := List.mem_map.1 hp
  obtain ⟨i, hi, he⟩ := List.getElem_of_mem hf
  have := (step_at (List.getElem?_eq_getElem hi) (g3 i hi)).2.2
  rw [he] at this
  simp only [FV.fl]
  omega
 ·simp only
  rw [tot_fl]
  exact g2
 ·simp only [List.length_map]
  exact g1
 ·rcases h5 with h5 | h5
  ·rw [hd] at h5; cases h5
  ·exact h5
theorem ins_last {k : List UInt8} {x : Fl} : ∀ (A : Fs), (∀ y ∈ A, bytesBefore y.1 k = true) -> insF (k, x) A = A ++ [(k, x)]
 | [], _ => rfl
 | y :: r, h => by
  unfold insF
  have h1 : (Lit.string k).before (.string y.1) = false := bytes_asymm (h y (by simp))
  rw [h1, ins_last r (fun z hz => h z (by simp [hz]))]
  rfl
theorem put_last {A : Fs} (hO : OrdF A) {j : Nat} {k : List UInt8} {x : Fl} (h : A[j]? = some (k, x)) : putF k x (A.take j) = A.take (j + 1) := by
 have hb : ∀ y ∈ A.take j, bytesBefore y.1 k = true := fun y hy => by
  obtain ⟨i, hi⟩ := List.mem_iff_getElem?.1 hy
  have hij : i < j := by
   have := (List.getElem?_eq_some_iff.1 hi).1
   rw [List.length_take] at this
   omega
  rw [List.getElem?_take_of_lt hij] at hi
  obtain ⟨hi1, hi2⟩ := List.getElem?_eq_some_iff.1 hi
  obtain ⟨hj1, hj2⟩ := List.getElem?_eq_some_iff.1 h
  have h2 := List.pairwise_iff_getElem.1 hO i j hi1 hj1 hij
  rw [hi2, hj2] at h2
  exact h2
 have hn : getF k (A.take j) = none := get_none_iff.2 fun p hp e => by
  have h1 := hb p hp
  rw [e] at h1
  have := bytes_asymm h1
  rw [h1] at this
  cases this
 unfold putF
 rw [del_none hn, ins_last _ hb, List.take_add_one, h]
 rfl
def FilesAtP (W : World) (pv : Option Addr) (l : List FV) : Prop :=
 l ≠ [] -> ∃ b off, pv = some ⟨b, off, none⟩ /\ ∀ i f, l[i]? = some f -> ∃ p c, W.cell? ⟨b, off + i * 3, none⟩ = some (.string f.nm) /\ W.cell? ⟨b, off + i * 3 + 1, none⟩ = some (.slice p f.bs.length c) /\ W.cell? ⟨b, off + i * 3 + 2, none⟩ = some (.int .i64 f.sy) /\ BytesAt W (.slice p f.bs.length c) f.bs
theorem FilesAtP.below {W W' : World} {pv : Option Addr} {l : List FV} (h0 : FilesAtP W pv l) (hb : Below W.heap.size W W') : FilesAtP W' pv l := fun hne => by
 obtain ⟨b, off, rfl, h⟩ := h0 hne
 refine ⟨b, off, rfl, fun i f hi => ?_⟩
 obtain ⟨p, c, h0, h1, h2, h3⟩ := h i f hi
 exact ⟨p, c, keep1 hb (World.block_lt_of_cell? W _ h0) h0, keep1 hb (World.block_lt_of_cell? W _ h1) h1, keep1 hb (World.block_lt_of_cell? W _ h2) h2, h3.below hb⟩
theorem FilesAtP.in {W : World} {pv : Option Addr} {l : List FV} (h0 : FilesAtP W pv l) : FilesIn W pv l := fun hne => by
 obtain ⟨b, off, rfl, h⟩ := h0 hne
 refine ⟨b, off, rfl, fun i f hi => ?_⟩
 obtain ⟨p, c, h0, h1, h2, h3⟩ := h i f hi
 exact ⟨p, c, h0, h1, h2, h3.in⟩
theorem from_no {w : World} (cap fu : Int) (dn : Bool) (pa : Option Addr) (ca : Nat) (l : List FV) (hin : FilesIn w pa l) (hnz : ∀ f ∈ l, f.nm.size <= 9223372036854775806) (hbl : ∀ f ∈ l, f.bs.length <= 140737488355328) (hv : validV cap l fu dn = false) :
  Calls Tryz.prog 93 #[.agg #[.int .i64 cap, .slice pa l.length ca, .int .i64 fu, .bool dn]] w fun e w' => e = .returned (.tuple #[.pointer none, .int .i64 35]) /\ Below w.heap.size w w' := by
 obtain ⟨w1, hw1⟩ : ∃ w1, w1 = w.alloc (.cells #[.int .i64 cap, .slice pa l.length ca, .int .i64 fu, .bool dn] 59) := ⟨_, rfl⟩
 have b1 : Below w.heap.size w w1 := by rw [hw1]; exact bal (Below.refl _ _) _
 have HV := hide (valid_any cap fu dn pa ca l (hin.below b1) hnz hbl)
 rw [hv] at HV
 have B1 := hide b1
 have H1 := hide hw1
 obtain ⟨L, hL⟩ : ∃ L, L = l.length := ⟨_, rfl⟩
 rw [<- hL] at HV H1 ⊢
 clear hw1 b1 hin hnz hbl hL hv
 go_enter Tryz.func93, Tryz.ntmps93
 go_wp2_with fail
 rw [<- uh H1]
 refine (uh HV).mono ?_
 rintro e w2 ⟨rfl, hb2⟩
 have B2 : Hid (Below w.heap.size w w2) := (uh B1).trans (hb2.mono (uh B1).size)
 clear hb2
 go_wp2_with fail
 go_ret2
 exact ⟨rfl, uh B2⟩
theorem from_yes {w : World} (cap fu : Int) (dn : Bool) (pa : Option Addr) (ca : Nat) (l : List FV) (hin : FilesAtP w pa l) (hnz : ∀ f ∈ l, f.nm.size <= 9223372036854775806) (hbl : ∀ f ∈ l, f.bs.length <= 140737488355328) (hv : validV cap l fu dn = true) :
  Calls Tryz.prog 93 #[.agg #[.int .i64 cap, .slice pa l.length ca, .int .i64 fu, .bool dn]] w fun e w' => ∃ d, e = .returned (.tuple #[.pointer (some ⟨d, 0, none⟩), .int .i64 0]) /\ ∃ S, DiskOK w' d 64 ⟨cap, l.map FV.fl, fu, dn⟩ S /\ (∀ q, S q -> w.heap.size <= q) /\ Below w.heap.size w w' := by
 obtain ⟨hI, hdn, hc0, hok⟩ := valid_inv hv
 obtain ⟨hm0, htot, hsteps⟩ := ok_parts hok
 obtain ⟨L, hL⟩ : ∃ L, L = l.length := ⟨_, rfl⟩
 have hm : L <= 64 := by rw [hL]; exact hm0
 obtain ⟨A, hA⟩ : ∃ A, A = l.map FV.fl := ⟨_, rfl⟩
 have HAA := hide hA
 have HST := hide hsteps
 obtain ⟨w1, hw1⟩ : ∃ w1, w1 = w.alloc (.cells #[.int .i64 cap, .slice pa l.length ca, .int .i64 fu, .bool dn] 59) := ⟨_, rfl⟩
 have b1 : Below w.heap.size w w1 := by rw [hw1]; exact bal (Below.refl _ _) _
 have z1 : w1.heap.size = w.heap.size + 1 := by rw [hw1]; simp
 have k0 : w1.cell? ⟨w.heap.size, 0, none⟩ = some (.int .i64 cap) := by rw [hw1, World.cell?_alloc_mark]; rfl
 have k1 : w1.cell? ⟨w.heap.size, 1, none⟩ = some (.slice pa L ca) := by rw [hw1, hL, World.cell?_alloc_mark]; rfl
 have k2 : w1.cell? ⟨w.heap.size, 2, none⟩ = some (.int .i64 fu) := by rw [hw1, World.cell?_alloc_mark]; rfl
 have k3 : w1.cell? ⟨w.heap.size, 3, none⟩ = some (.bool dn) := by rw [hw1, World.cell?_alloc_mark]; rfl
 have HV := hide (valid_any cap fu dn pa ca l (hin.below b1).in hnz hbl)
 rw [hv] at HV
 rw [<- hA] at hI ⊢
 have HX : Hid (∀ p ∈ A, p.2.bs.length <= 1048576) := fun p hp => by
  obtain ⟨i, hi, he⟩ := List.getElem_of_mem hp
  have h0 : A[i]? = some p := by rw [List.getElem?_eq_getElem hi, he]
  have h1 : totF (A.take (i + 1)) = totF (A.take i) + p.2.bs.length := tot_take h0
  have h2 := tot_le A (i + 1)
  have h3 := hI.tot
  have h4 := hI.cap1
  simp only at h3 h4
  omega
 have H1 := hide hw1; have B1 := hide b1; have HIN := hide hin; have HI := hide hI; have HL := hide hL
 rw [<- hL] at HV H1 ⊢
 clear hw1 b1 hin hI hdn hL hA hsteps hv hok htot hm0 hnz hbl hc0
 go_enter Tryz.func93, Tryz.ntmps93
 go_wp2_with fail
 rw [<- uh H1]
 refine (uh HV).mono ?_
 rintro e w2 ⟨rfl, hb2⟩
 have z2 := hb2.size
 have q0 := keep1 hb2 (by omega) k0
 have q1 := keep1 hb2 (by omega) k1
 have q2 := keep1 hb2 (by omega) k2
 have q3 := keep1 hb2 (by omega) k3
 have B2 : Hid (Below w.heap.size w w2) := (uh B1).trans (hb2.mono (uh B1).size)
 have q1a := fun o => keep1 (bal (Below.refl w2.heap.size w2) o) (by omega) q1
 clear hb2 k0 k1 k2 k3 H1 HV
 go_wp2_with fail
 go_loopw [21] (fun u wr => ∃ (j : Nat) (S : Nat -> Prop), j <= L /\ u = .int .i64 (j : Int) /\ DiskOK wr w2.heap.size j ⟨cap, A.take j, fu, dn⟩ S /\ (∀ q, S q -> w.heap.size <= q) /\ Below w.heap.size w wr) (fun u _ => L - (intOf u).toNat)
 case atStart => exact ⟨0, _, Nat.zero_le _, rfl, ⟨none, 0, [], new_is cap w2 fu dn⟩, fun q e => by omega, (uh B2).trans ((bal (Below.refl _ _) _).mono (uh B2).size)⟩
 case round =>
  obtain ⟨j, S, hj, rfl, hD, hS, hbr⟩ := hrel
  have HD := hide hD; have HS := hide hS; have HBR := hide hbr
  by_cases hlt : j < L
  ·obtain ⟨f, hf⟩ : ∃ f, l[j]? = some f := ⟨_, List.getElem?_eq_getElem (by rw [<- uh HL]; exact hlt)⟩
   have hfm := List.mem_of_getElem? hf
   have hkx0 : A[j]? = some f.fl := by rw [uh HAA, List.getElem?_map, hf]; rfl
   obtain ⟨hnm, _, hsy0, _⟩ := step_at hf (uh HST j (by rw [<- uh HL]; exact hlt))
   obtain ⟨b, off, rfl, hcells⟩ := (uh HIN).below hbr (List.ne_nil_of_mem hfm)
   obtain ⟨p1, c1, a0, a1, a2, hra⟩ := hcells j f hf
   obtain ⟨s, bs, sy⟩ := f
   simp only [FV.fl] at hkx0
   simp only at hnm hsy0 a0 a1 a2 hra
   obtain ⟨k, hsk⟩ : ∃ k, s.data.toList = k := ⟨_, rfl⟩
   obtain ⟨x, hx⟩ : ∃ x : Fl, x = ⟨bs, sy.toNat⟩ := ⟨_, rfl⟩
   have hxb : bs = x.bs := by rw [hx]
   have hxs : sy = (x.sy : Int) := by rw [hx]; exact (Int.toNat_of_nonneg hsy0).symm
   have hkx : A[j]? = some (k, x) := by rw [hkx0, hsk, hx]
   rw [hxb] at a1 hra
   rw [hxs] at a2
   have hxl : x.bs.length <= 1048576 := uh HX _ (List.mem_of_getElem? hkx)
   have hput := put_last (uh HI).ord hkx
   have hsz : s.size <= maxLen := by have := nameS_size hnm; unfold maxLen; omega
   obtain ⟨w4, hw4⟩ : ∃ w4, w4 = wr.alloc (.cells #[.string s, .slice p1 x.bs.length c1, .int .i64 (x.sy : Int)] 82) := ⟨_, rfl⟩
   have b4 : Below wr.heap.size wr w4 := by rw [hw4]; exact bal (Below.refl _ _) _
   have z4 : w4.heap.size = wr.heap.size + 1 := by rw [hw4]; simp
   have kf0 : w4.cell? ⟨wr.heap.size, 0, none⟩ = some (.string s) := by rw [hw4, World.cell?_alloc_mark]; rfl
   have kf1 : w4.cell? ⟨wr.heap.size, 1, none⟩ = some (.slice p1 x.bs.length c1) := by rw [hw4, World.cell?_alloc_mark]; rfl
   have kf2 : w4.cell? ⟨wr.heap.size, 2, none⟩ = some (.int .i64 (x.sy : Int)) := by rw [hw4, World.cell?_alloc_mark]; rfl
   have HCL := hide (clone_ok (w := w4.drew) p1 c1 x.bs ((hra.below b4).far (fun _ _ => rfl)) hxl)
   have H5 : Hid (∀ w5, Below w4.heap.size w4 w5 -> (w5.cell? ⟨wr.heap.size, 0, none⟩ = some (.string s) /\ w5.cell? ⟨wr.heap.size, 1, none⟩ = some (.slice p1 x.bs.length c1) /\ w5.cell? ⟨wr.heap.size, 2, none⟩ = some (.int .i64 (x.sy : Int)))) := fun w5 hb => ⟨keep1 hb (by omega) kf0, keep1 hb (by omega) kf1, keep1 hb (by omega) kf2⟩
   have HPUT : Hid (∀ w5 p2 c2, Below w4.heap.size w4 w5 -> w5.ownsRow w4.heap.size 5 1 (.slice p2 x.bs.length c2) x.bs.length (bcs x.bs) ->
     Calls Tryz.prog 147 #[.pointer (some ⟨w2.heap.size, 0, none⟩), .string s, .agg #[.slice p2 x.bs.length c2, .int .i64 (x.sy : Int)]] w5 fun e w' => (∃ r, e = .returned r) /\ ∃ S', DiskOK w' w2.heap.size (j + 1) ⟨cap, A.take (j + 1), fu, dn⟩ S' /\ (∀ q, S' q -> w.heap.size <= q) /\ Below w.heap.size w w') := by
    intro w5 p2 c2 hb5 hr5
    have hB5 : Below wr.heap.size wr w5 := b4.trans (hb5.mono (by omega))
    obtain ⟨mo, n, es, hDi⟩ := hD.below hB5
    have hnew : ∀ q, (Value.slice p2 x.bs.length c2).ownBlock = some q -> w4.heap.size <= q /\ q < w5.heap.size := fun q hq => hr5.lt q hq
    have hSl : ∀ q, S q -> q < wr.heap.size := hD.sl
    have hDi' : DiskIs w5 w2.heap.size j ⟨cap, A.take j, fu, dn⟩ (fun q => S q \/ (Value.slice p2 x.bs.length c2).ownBlock = some q) mo n es := hDi.mono (fun q => .inl) (fun q hq => hq.elim (hDi.sl q) (fun h' => (hnew q h').2))
    have := put_is hDi' (by omega) s hsz p2 c2 x (row_base hr5 (Nat.zero_le _)) (fun q hq => ⟨.inr hq, fun e => by have h1 := (hnew q hq).1; have h2 := hSl _ hDi.sd; omega, fun e => by have h1 := (hnew q hq).1; have h2 := hSl _ (hDi.mb q e).2.1; omega, fun e he _ h' => by have h1 := (hnew q hq).1; have h2 := hSl _ (hDi.eb e he q h'); omega⟩)
    refine this.mono ?_
    rintro e w' ⟨hr, S', hok, hsep⟩
    have hA' : ({ cap := cap, A := putF s.data.toList x (A.take j), fuse := fu, down := dn } : Dk) = ⟨cap, A.take (j + 1), fu, dn⟩ := by rw [hsk, hput]
    have hS5 : ∀ q, (S q \/ (Value.slice p2 x.bs.length c2).ownBlock = some q) -> w.heap.size <= q := fun q hq => hq.elim (hS q) (fun h' => by have h1 := (hnew q h').1; have := hbr.size; omega)
    have hz5 : w.heap.size <= w5.heap.size := Nat.le_trans hbr.size hB5.size
    refine ⟨hr, S', ?_, hsep.from hS5 hz5, (hbr.trans (hB5.mono hbr.size)).trans (hsep.below hS5 hz5)⟩
    rw [<- hA']
    exact hok
   have i0 : (0 : Int) <= (j : Int) := by omega
   have i1 : (j : Int) < (L : Int) := by omega
   have H4 := hide hw4
   clear hw4 b4 hra hD hS hbr hput hkx hkx0 hfm hf hsk hnm hxl hx hxb hxs hcells hsy0
   go_wp2_with fail
   rw [<- uh H4]
   go_region_law (first
    | ((go_simp; go_at_call 49; refine (uh HCL).mono ?_; rintro e w5 ⟨⟨p2, c2, rfl, hr5⟩, hb5'⟩; have HB5 : Hid (Below w4.heap.size w4 w5) := ⟨hb5'.os, hb5'.tape, hb5'.output, hb5'.size, hb5'.block⟩; obtain ⟨s0, s1, s2⟩ := uh H5 w5 (uh HB5); have R5 := hide hr5; clear hr5 hb5'))
    | ((go_simp; go_at_call 147; refine (uh HPUT w5 p2 c2 (uh HB5) (uh R5)).mono ?_; rintro e w6 ⟨⟨r, rfl⟩, hres⟩; have R6 := hide hres; clear hres)))
   all_goals go_wp2_with fail
   all_goals (obtain ⟨S6, hd6, hs6, hb6⟩ := uh R6; exact ⟨⟨j + 1, S6, by omega, by go_num, hd6, hs6, hb6⟩, by simp [intOf]; omega⟩)
  ·have j1 : ¬ (j : Int) < (L : Int) := by omega
   clear hbr hD hS
   go_wp2_with fail
   go_ret2
   have hjL : A.take j = A := List.take_of_length_le (by rw [uh HAA, List.length_map, <- uh HL]; omega)
   have hD := uh HD
   rw [hjL] at hD
   exact ⟨_, rfl, S, hD.more (by omega), uh HS, uh HBR⟩
end Go.Proofs.YtpeohbkigkfcgaaGreatDoor
