import Derived.Test.YtpeohbkigkfcgabGreatDoorGAV
import Derived.Test.YtpeohbkigkfcgabGreatDoorGAN
set_option linter.unusedVariables false
set_option linter.unusedSimpArgs false
set_option maxRecDepth 100000
set_option maxHeartbeats 16000000
namespace Go.Proofs.YtpeohbkigkfcgabGreatDoor
open Go Go.ChangeShapes Go.WideShapes Go.ChangeAt Go.RowKit
theorem keptf_in {W : World} {B gr cr : Nat} {l : List FV} {g c : Nat -> Nat} {pa : Option Addr} {ca : Nat} (hin : FilesIn W pa l) (hr : W.ownsRow B 82 3 (.slice (some ⟨gr, 0, none⟩) (l.length + 64) cr) (l.length + 64) (Kf.fcells (Kf.fcat (fun i => (l[i]?.getD default).fe (g i) (c i)) l.length (Kf.mkF 700000)) (l.length + 64))) (hP : Kt.Pw W) (hl : l.length <= 2932031007320) :
  Calls Tryz.prog 95 #[.slice (some ⟨gr, 0, none⟩) (l.length + 64) cr, .slice pa l.length ca] W fun e w' => e = .returned (.bool true) /\ Below W.heap.size W w' := by
 have hgl := (hr.lt gr rfl).2
 have hrc : ∀ k, k < l.length + 64 -> ∀ i, i < 3 -> W.cell? ⟨gr, k * 3 + i, none⟩ = (Kf.fcat (fun i => (l[i]?.getD default).fe (g i) (c i)) l.length (Kf.mkF 700000) k).cells[i]? := fun k hk i hi => by
  rw [hr.cellAt (k * 3 + i) (by omega)]
  exact Kf.fcells_get _ i hi _ _ hk
 by_cases e : l = []
 ·subst e
  refine Kf.kept_zero pa ca gr cr W hP hgl (fun k hk i hi => ?_)
  have h1 := hrc k (by simpa using hk) i hi
  rw [h1]
  have h2 := Kf.fcat_ge (F := fun i => (([] : List FV)[i]?.getD default).fe (g i) (c i)) (G := Kf.mkF 700000) (n := 0) k
  rw [Nat.zero_add] at h2
  exact congrArg (fun z : Kf.FE => z.cells[i]?) h2
 ·obtain ⟨b, off, rfl, hf⟩ := hin e
  have hch : ∀ k, ∃ fe : Kf.FE, k < l.length -> (fe.nm = (l[k]?.getD default).nm /\ fe.m = (l[k]?.getD default).bs.length /\ fe.sy = (l[k]?.getD default).sy) /\ ∀ i, i < 3 -> W.cell? ⟨b, off + (k * 3 + i), none⟩ = fe.cells[i]? := by
   intro k
   by_cases hk : k < l.length
   ·obtain ⟨x, hx⟩ : ∃ x, l[k]? = some x := ⟨_, List.getElem?_eq_getElem hk⟩
    obtain ⟨p, c', h0, h1, h2, _⟩ := hf k x hx
    refine ⟨⟨x.nm, p, x.bs.length, c', x.sy⟩, fun _ => ⟨by rw [hx]; exact ⟨rfl, rfl, rfl⟩, fun i hi => ?_⟩⟩
    match i, hi with
    | 0, _ => exact h0
    | 1, _ => exact h1
    | 2, _ => exact h2
   ·exact ⟨⟨⟨#[]⟩, none, 0, 0, 0⟩, fun h => absurd h hk⟩
  have hne : 0 < l.length := List.length_pos_iff.2 e
  exact Kf.kept_some (fun i => (l[i]?.getD default).fe (g i) (c i)) (fun k => (hch k).choose) b off l.length ca hl gr cr W hP (fun _ => World.block_lt_of_cell? W _ (((hch 0).choose_spec hne).2 0 (by omega))) hgl (fun k hk => ((hch k).choose_spec hk).1) (fun k hk => ((hch k).choose_spec hk).2) hrc
theorem lo_files {W : World} {B gr cr : Nat} {l : List FV} {g c : Nat -> Nat} {lv fv : Value} (hL : Lo W B l l.length g c lv fv) (hr : W.ownsRow B 82 3 (.slice (some ⟨gr, 0, none⟩) (l.length + 64) cr) (l.length + 64) (Kf.fcells (Kf.fcat (fun i => (l[i]?.getD default).fe (g i) (c i)) l.length (Kf.mkF 700000)) (l.length + 64))) : FilesAtP W (some ⟨gr, 0, none⟩) l := by
 intro _
 refine ⟨gr, 0, rfl, fun i f hi => ?_⟩
 have hlt : i < l.length := (List.getElem?_eq_some_iff.1 hi).1
 have hf : l[i]?.getD default = f := by rw [hi]; rfl
 have hrc : ∀ k, k < 3 -> W.cell? ⟨gr, i * 3 + k, none⟩ = (f.fe (g i) (c i)).cells[k]? := fun k hk => by
  rw [hr.cellAt (i * 3 + k) (by omega), Kf.fcells_get _ k hk _ _ (by omega), Kf.fcat_lt hlt, hf]
 have hls := hL.ls i hlt
 rw [hf] at hls
 refine ⟨some ⟨g i, 0, none⟩, c i, ?_, ?_, ?_, ?_⟩
 ·rw [Nat.zero_add]; exact hrc 0 (by omega)
 ·rw [Nat.zero_add]; exact hrc 1 (by omega)
 ·rw [Nat.zero_add]; exact hrc 2 (by omega)
 ·refine .inr ⟨g i, 0, c i, rfl, fun j u hj => ?_⟩
  have hj' : j < f.bs.length := by have := (List.getElem?_eq_some_iff.1 hj).1; simpa [bcs] using this
  rw [bcs_cells, Kp.bcells_get _ _ _ hj'] at hj
  rw [Nat.zero_add, hls.cellAt j (by omega), Kp.bcells_get _ _ _ (by omega), Kp.cat_lt hj']
  exact hj
def toFV (p : List UInt8 × Fl) : FV := ⟨⟨p.1.toArray⟩, p.2.bs, (p.2.sy : Int)⟩
theorem files_in {W : World} {b e : Nat} {pv : Option Addr} {n c : Nat} {A : Fs} (h : FilesRow W b e (.slice pv n c) A) : FilesIn W pv (A.map toFV) := by
 intro hne
 have h0 : 0 < A.length := by
  rcases A with _ | ⟨a, A⟩
  ·exact absurd rfl hne
  ·simp
 obtain ⟨⟨k0, x0⟩, hx0⟩ : ∃ y, A[0]? = some y := ⟨_, List.getElem?_eq_getElem h0⟩
 obtain ⟨g, cap, _, _, _, hv, _⟩ := h.at hx0
 injection hv with hv _ _
 refine ⟨g, 0, hv, fun i f hi => ?_⟩
 rw [List.getElem?_map] at hi
 obtain ⟨⟨k, x⟩, hx, rfl⟩ := Option.map_eq_some_iff.1 hi
 obtain ⟨g', cap', p, c', b', hv', _, c0, c1, c2, hr⟩ := h.at hx
 injection hv' with hv' _ _
 rw [hv] at hv'
 injection hv' with hv'
 injection hv' with hv' _ _
 subst hv'
 refine ⟨p, c', ?_, ?_, ?_, (BytesAt.of_row hr).in⟩
 ·rw [Nat.zero_add]; exact c0
 ·rw [Nat.zero_add]; exact c1
 ·rw [Nat.zero_add]; exact c2
end Go.Proofs.YtpeohbkigkfcgabGreatDoor
namespace Go.Proofs.YtpeohbkigkfcgabGreatDoor
open Go Go.ChangeShapes Go.WideShapes Go.ChangeAt Go.RowKit
attribute [local go_sem] setCell_drewN alloc_drewN
theorem inv_fuse {K : Dk} (h : Inv K) (x : Int) : Inv (fuseK K x).1 := by
 unfold fuseK
 split
 ·exact h
 ·rename_i h1
  split
  ·exact h
  ·simp only [canBe, Bool.and_eq_false_iff, decide_eq_false_iff_not, not_or, Classical.not_not] at h1
   exact ⟨h.ord, h.nm, h.sy, h.tot, h.cap1, h1.1, h1.2, h.many⟩
theorem changes_create {w0 w : World} {y N j : Nat} {T : Nat -> Option Tw} {U : Nat -> Prop} (h : PlayIs w0 w y N T U) (hj : j < 3) {t : Tw} (ht : T j = some t) (hN : N < 800000) (o : OpV) (hd : o.d = (j : Int)) (hk : o.kd = 3) (ho : OpIn w0 o) :
  Calls Tryz.prog 15 #[.pointer (some ⟨y, 0, none⟩), o.val] w fun e w' => e = .returned (.bool true) /\ ∃ T' U', PlayIs w0 w' y (N + 64) T' U' := by
 have hT := h.tw j hj t ht
 have hN9 : N < 1000000 := by omega
 have hf : t.K.fuse <= 9223372036854775807 := by have := hT.i.fu1; omega
 have hf0 : -9223372036854775808 <= t.K.fuse := by have := hT.i.fu0; omega
 have hl := hT.i.many
 have hs : o.nm.size <= maxLen := by have := ho.nm; unfold maxLen; omega
 have hs2 : o.to.size <= maxLen := by have := ho.to; unfold maxLen; omega
 have hp1 := h.p j hj
 have hd1 := h.d j hj
 rw [ht] at hp1 hd1
 have hp1 : w.cell? ⟨y, j, none⟩ = some (.pointer (some ⟨t.pb, 0, none⟩)) := hp1
 have hd1 : w.cell? ⟨y, 3 + j, none⟩ = some (.pointer (some ⟨t.rb, 0, none⟩)) := hd1
 have hyl := h.kb.lt
 obtain ⟨w1, hw1⟩ : ∃ w1, w1 = w.alloc (.cells #[.int .i64 (j : Int), .int .i64 3, .string o.nm, .string o.to, .slice o.pu o.b2.length o.cu, .int .i64 o.pos, .int .i64 o.n, .slice o.pk o.ks.length o.ck, .int .i64 o.cp, .slice o.pf o.fs.length o.cf, .int .i64 o.fu, .bool o.dn] 61) := ⟨_, rfl⟩
 have B1 : Hid (Below w.heap.size w w1) := by rw [hw1]; exact bal (Below.refl _ _) _
 have hz1 : w1.heap.size = w.heap.size + 1 := by rw [hw1]; simp
 have e0 : w1.cell? ⟨w.heap.size, 0, none⟩ = some (.int .i64 (j : Int)) := by rw [hw1]; simp
 have e1 : w1.cell? ⟨w.heap.size, 1, none⟩ = some (.int .i64 3) := by rw [hw1]; simp
 have b2 : w1.cell? ⟨w.heap.size, 2, none⟩ = some (.string o.nm) := by rw [hw1]; simp
 have p1 : w1.cell? ⟨y, j, none⟩ = some (.pointer (some ⟨t.pb, 0, none⟩)) := keep1 (uh B1) hyl hp1
 have d1 : w1.cell? ⟨y, 3 + j, none⟩ = some (.pointer (some ⟨t.rb, 0, none⟩)) := keep1 (uh B1) hyl hd1
 have B1d : Hid (Below w.heap.size w w1.drew.drew.drew) := (uh B1).drew.drew.drew
 have hbox : ¬ t.S w.heap.size := fun e => by have := hT.p.sl _ e; omega
 have hboxV : ¬ t.V w.heap.size := fun e => by have := hT.r.sl _ e; omega
 have HA : Hid (Calls Tryz.prog 39 #[.pointer (some ⟨t.pb, 0, none⟩), .string o.nm] w1.drew.drew.drew fun e w2 => e = .returned (.int .i64 (chgK t.K (whyK o.nm t.K) (newA o.nm t.K)).2) /\ ∃ S2, DiskOK w2 t.pb (N + 1) (chgK t.K (whyK o.nm t.K) (newA o.nm t.K)).1 S2 /\ Sep w1.drew.drew.drew w2 t.S S2) := by
  obtain ⟨mo, n, es, hD⟩ := hT.p.below (uh B1d)
  exact (create_ok hD hN9 hf o.nm hs).mono (fun e w2 hh => hh)
 have HR : Hid (∀ w2 S2, Sep w1.drew.drew.drew w2 t.S S2 -> Calls Tryz.prog 97 #[.pointer (some ⟨t.rb, 0, none⟩), .string o.nm] w2 fun e w3 => e = .returned (.int .i64 (chgK t.K (whyK o.nm t.K) (newA o.nm t.K)).2) /\ ∃ V3, RefOK w3 t.rb (chgK t.K (whyK o.nm t.K) (newA o.nm t.K)).1 V3 /\ Sep w2 w3 t.V V3) := fun w2 S2 hs' => by
  have hR := (hT.r.below (uh B1d)).sep hs' (fun q hq e => hT.a q e hq)
  exact (rcreate_ok hR hl hf hf0 o.nm ho.nm).mono (fun e w3 hh => hh)
 have HBX2 : Hid (∀ w2 S2, Sep w1.drew.drew.drew w2 t.S S2 -> w2.heap[w.heap.size]? = w1.heap[w.heap.size]?) := fun w2 S2 hs' => hs'.block w.heap.size (show w.heap.size < w1.heap.size by omega) hbox
 have HBX3 : Hid (∀ w2 S2, Sep w1.drew.drew.drew w2 t.S S2 -> ∀ w3 V3, Sep w2 w3 t.V V3 -> w3.heap[w.heap.size]? = w2.heap[w.heap.size]?) := fun w2 S2 hs' w3 V3 hs'' => hs''.block w.heap.size (Nat.lt_of_lt_of_le (show w.heap.size < w1.heap.size by omega) hs'.size) hboxV
 have HF : Hid (∀ w2 S2, DiskOK w2 t.pb (N + 1) (chgK t.K (whyK o.nm t.K) (newA o.nm t.K)).1 S2 -> Sep w1.drew.drew.drew w2 t.S S2 -> ∀ w3 V3, RefOK w3 t.rb (chgK t.K (whyK o.nm t.K) (newA o.nm t.K)).1 V3 -> Sep w2 w3 t.V V3 -> ∃ T' U', PlayIs w0 w3 y (N + 64) T' U') := fun w2 S2 hd2 hs2 w3 V3 hd3 hs3 => ⟨_, U, (h.pair hj ht (uh B1d) hd2 hs2 hd3 hs3 (hT.i.create o.nm) (by omega)).mono (by omega)⟩
 obtain ⟨X, hX⟩ : ∃ X : Int, X = (chgK t.K (whyK o.nm t.K) (newA o.nm t.K)).2 := ⟨_, rfl⟩
 rw [<- hX] at HA HR
 have hjI : (0 : Int) <= (j : Int) := by omega
 have hjI3 : (j : Int) < 3 := by omega
 unfold OpV.val
 rw [hd, hk]
 clear h hT hN9 hf hf0 hl hs hs2 hp1 hd1 hX ht hd hk ho hbox hboxV
 go_enter Tryz.func15, Tryz.ntmps15
 go_wp2_with fail
 rw [<- hw1]
 clear hw1
 refine wp_region_last (n := 8) (S := fun W => W.cell? ⟨w.heap.size, 0, none⟩ = some (.int .i64 (j : Int)) /\ W.cell? ⟨y, j, none⟩ = some (.pointer (some ⟨t.pb, 0, none⟩))) (by kernel_rfl) (by first | (exact ⟨e0, p1⟩)) (fun hHeld => ?_)
 refine tkW 0 ?_; refine tkW 1 ?_; refine tkN 2 ?_; refine tkW 3 ?_; refine tkW 4 ?_; refine tkW 5 ?_; refine tkN 6 ?_; refine tkW 7 ?_
 refine wpAnyL_done (by kernel_rfl) ?_
 go_wp2_with fail
 refine wp_region_last (n := 8) (S := fun W => W.cell? ⟨w.heap.size, 0, none⟩ = some (.int .i64 (j : Int)) /\ W.cell? ⟨y, 3 + j, none⟩ = some (.pointer (some ⟨t.rb, 0, none⟩))) (by kernel_rfl) (by first | (exact ⟨e0, d1⟩)) (fun hHeld => ?_)
 refine tkW 0 ?_; refine tkW 1 ?_; refine tkN 2 ?_; refine tkW 3 ?_; refine tkW 4 ?_; refine tkW 5 ?_; refine tkN 6 ?_; refine tkW 7 ?_
 refine wpAnyL_done (by kernel_rfl) ?_
 go_wp2_with fail
 refine wp_region_last (n := 12) (S := fun W => W.cell? ⟨w.heap.size, 2, none⟩ = some (.string o.nm)) (by kernel_rfl) (by first | (exact b2)) (fun hHeld => ?_)
 refine tkW 0 ?_; refine tkW 1 ?_; refine tkN 2 ?_; refine tkW 5 ?_; refine tkW 6 ?_; refine tkN 7 ?_
 refine wpAnyL_one (i := 3) (by kernel_rfl) rfl (fun KK hK => ?_)
 go_simp
 go_at_call 39
 refine (uh HA).mono ?_
 rintro r w2 ⟨rfl, S2, hd2, hs2⟩
 have D2 := hide hd2
 have Q2 := hide hs2
 clear hd2 hs2
 have m2 := (World.cell?_of_block (a := ⟨w.heap.size, 2, none⟩) (uh HBX2 w2 S2 (uh Q2))).trans b2
 refine hK.out _ _ (by first | (exact m2)) (fun hHeld => ?_)
 clear hK KK
 refine wpAnyL_one (i := 4) (by kernel_rfl) rfl (fun KK hK => ?_)
 go_simp
 go_at_call 38
 refine (num_any _ _).mono ?_
 rintro r wz ⟨rfl, hw⟩
 rw [hw]
 clear hw wz
 refine hK.out _ _ (by first | (exact m2)) (fun hHeld => ?_)
 clear hK KK
 refine wpAnyL_one (i := 8) (by kernel_rfl) rfl (fun KK hK => ?_)
 go_simp
 go_at_call 97
 refine (uh HR w2 S2 (uh Q2)).mono ?_
 rintro r w3 ⟨rfl, V3, hd3, hs3⟩
 have D3 := hide hd3
 have Q3 := hide hs3
 clear hd3 hs3
 have n2 := (World.cell?_of_block (a := ⟨w.heap.size, 2, none⟩) (uh HBX3 w2 S2 (uh Q2) w3 V3 (uh Q3))).trans m2
 refine hK.out _ _ (by first | (exact n2)) (fun hHeld => ?_)
 clear hK KK
 refine wpAnyL_one (i := 9) (by kernel_rfl) rfl (fun KK hK => ?_)
 go_simp
 go_at_call 38
 refine (num_any _ _).mono ?_
 rintro r wz ⟨rfl, hw⟩
 rw [hw]
 clear hw wz
 refine hK.out _ _ (by first | (exact n2)) (fun hHeld => ?_)
 clear hK KK
 refine tkW 10 ?_; refine tkW 11 ?_
 refine wpAnyL_done (by kernel_rfl) ?_
 go_wp2_with fail
 go_ret
 exact ⟨rfl, uh HF w2 S2 (uh D2) (uh Q2) w3 V3 (uh D3) (uh Q3)⟩
theorem changes_sync {w0 w : World} {y N j : Nat} {T : Nat -> Option Tw} {U : Nat -> Prop} (h : PlayIs w0 w y N T U) (hj : j < 3) {t : Tw} (ht : T j = some t) (hN : N < 800000) (o : OpV) (hd : o.d = (j : Int)) (hk : o.kd = 5) (ho : OpIn w0 o) :
  Calls Tryz.prog 15 #[.pointer (some ⟨y, 0, none⟩), o.val] w fun e w' => e = .returned (.bool true) /\ ∃ T' U', PlayIs w0 w' y (N + 64) T' U' := by
 have hT := h.tw j hj t ht
 have hN9 : N < 1000000 := by omega
 have hf : t.K.fuse <= 9223372036854775807 := by have := hT.i.fu1; omega
 have hf0 : -9223372036854775808 <= t.K.fuse := by have := hT.i.fu0; omega
 have hl := hT.i.many
 have hs : o.nm.size <= maxLen := by have := ho.nm; unfold maxLen; omega
 have hs2 : o.to.size <= maxLen := by have := ho.to; unfold maxLen; omega
 have hp1 := h.p j hj
 have hd1 := h.d j hj
 rw [ht] at hp1 hd1
 have hp1 : w.cell? ⟨y, j, none⟩ = some (.pointer (some ⟨t.pb, 0, none⟩)) := hp1
 have hd1 : w.cell? ⟨y, 3 + j, none⟩ = some (.pointer (some ⟨t.rb, 0, none⟩)) := hd1
 have hyl := h.kb.lt
 obtain ⟨w1, hw1⟩ : ∃ w1, w1 = w.alloc (.cells #[.int .i64 (j : Int), .int .i64 5, .string o.nm, .string o.to, .slice o.pu o.b2.length o.cu, .int .i64 o.pos, .int .i64 o.n, .slice o.pk o.ks.length o.ck, .int .i64 o.cp, .slice o.pf o.fs.length o.cf, .int .i64 o.fu, .bool o.dn] 61) := ⟨_, rfl⟩
 have B1 : Hid (Below w.heap.size w w1) := by rw [hw1]; exact bal (Below.refl _ _) _
 have hz1 : w1.heap.size = w.heap.size + 1 := by rw [hw1]; simp
 have e0 : w1.cell? ⟨w.heap.size, 0, none⟩ = some (.int .i64 (j : Int)) := by rw [hw1]; simp
 have e1 : w1.cell? ⟨w.heap.size, 1, none⟩ = some (.int .i64 5) := by rw [hw1]; simp
 have b2 : w1.cell? ⟨w.heap.size, 2, none⟩ = some (.string o.nm) := by rw [hw1]; simp
 have p1 : w1.cell? ⟨y, j, none⟩ = some (.pointer (some ⟨t.pb, 0, none⟩)) := keep1 (uh B1) hyl hp1
 have d1 : w1.cell? ⟨y, 3 + j, none⟩ = some (.pointer (some ⟨t.rb, 0, none⟩)) := keep1 (uh B1) hyl hd1
 have B1d : Hid (Below w.heap.size w w1.drew.drew.drew) := (uh B1).drew.drew.drew
 have hbox : ¬ t.S w.heap.size := fun e => by have := hT.p.sl _ e; omega
 have hboxV : ¬ t.V w.heap.size := fun e => by have := hT.r.sl _ e; omega
 have HA : Hid (Calls Tryz.prog 41 #[.pointer (some ⟨t.pb, 0, none⟩), .string o.nm] w1.drew.drew.drew fun e w2 => e = .returned (.int .i64 (chgK t.K (erF o.nm t.K) (syncA o.nm t.K)).2) /\ ∃ S2, DiskOK w2 t.pb (N + 1) (chgK t.K (erF o.nm t.K) (syncA o.nm t.K)).1 S2 /\ Sep w1.drew.drew.drew w2 t.S S2) := by
  obtain ⟨mo, n, es, hD⟩ := hT.p.below (uh B1d)
  exact (sync_ok hD hN9 hf o.nm hs).mono (fun e w2 hh => hh)
 have HR : Hid (∀ w2 S2, Sep w1.drew.drew.drew w2 t.S S2 -> Calls Tryz.prog 100 #[.pointer (some ⟨t.rb, 0, none⟩), .string o.nm] w2 fun e w3 => e = .returned (.int .i64 (chgK t.K (erF o.nm t.K) (syncA o.nm t.K)).2) /\ ∃ V3, RefOK w3 t.rb (chgK t.K (erF o.nm t.K) (syncA o.nm t.K)).1 V3 /\ Sep w2 w3 t.V V3) := fun w2 S2 hs' => by
  have hR := (hT.r.below (uh B1d)).sep hs' (fun q hq e => hT.a q e hq)
  exact (rsync_ok hR hl hT.i.ord hf hf0 o.nm ho.nm).mono (fun e w3 hh => hh)
 have HBX2 : Hid (∀ w2 S2, Sep w1.drew.drew.drew w2 t.S S2 -> w2.heap[w.heap.size]? = w1.heap[w.heap.size]?) := fun w2 S2 hs' => hs'.block w.heap.size (show w.heap.size < w1.heap.size by omega) hbox
 have HBX3 : Hid (∀ w2 S2, Sep w1.drew.drew.drew w2 t.S S2 -> ∀ w3 V3, Sep w2 w3 t.V V3 -> w3.heap[w.heap.size]? = w2.heap[w.heap.size]?) := fun w2 S2 hs' w3 V3 hs'' => hs''.block w.heap.size (Nat.lt_of_lt_of_le (show w.heap.size < w1.heap.size by omega) hs'.size) hboxV
 have HF : Hid (∀ w2 S2, DiskOK w2 t.pb (N + 1) (chgK t.K (erF o.nm t.K) (syncA o.nm t.K)).1 S2 -> Sep w1.drew.drew.drew w2 t.S S2 -> ∀ w3 V3, RefOK w3 t.rb (chgK t.K (erF o.nm t.K) (syncA o.nm t.K)).1 V3 -> Sep w2 w3 t.V V3 -> ∃ T' U', PlayIs w0 w3 y (N + 64) T' U') := fun w2 S2 hd2 hs2 w3 V3 hd3 hs3 => ⟨_, U, (h.pair hj ht (uh B1d) hd2 hs2 hd3 hs3 (hT.i.sync o.nm) (by omega)).mono (by omega)⟩
 obtain ⟨X, hX⟩ : ∃ X : Int, X = (chgK t.K (erF o.nm t.K) (syncA o.nm t.K)).2 := ⟨_, rfl⟩
 rw [<- hX] at HA HR
 have hjI : (0 : Int) <= (j : Int) := by omega
 have hjI3 : (j : Int) < 3 := by omega
 unfold OpV.val
 rw [hd, hk]
 clear h hT hN9 hf hf0 hl hs hs2 hp1 hd1 hX ht hd hk ho hbox hboxV
 go_enter Tryz.func15, Tryz.ntmps15
 go_wp2_with fail
 rw [<- hw1]
 clear hw1
 refine wp_region_last (n := 8) (S := fun W => W.cell? ⟨w.heap.size, 0, none⟩ = some (.int .i64 (j : Int)) /\ W.cell? ⟨y, j, none⟩ = some (.pointer (some ⟨t.pb, 0, none⟩))) (by kernel_rfl) (by first | (exact ⟨e0, p1⟩)) (fun hHeld => ?_)
 refine tkW 0 ?_; refine tkW 1 ?_; refine tkN 2 ?_; refine tkW 3 ?_; refine tkW 4 ?_; refine tkW 5 ?_; refine tkN 6 ?_; refine tkW 7 ?_
 refine wpAnyL_done (by kernel_rfl) ?_
 go_wp2_with fail
 refine wp_region_last (n := 8) (S := fun W => W.cell? ⟨w.heap.size, 0, none⟩ = some (.int .i64 (j : Int)) /\ W.cell? ⟨y, 3 + j, none⟩ = some (.pointer (some ⟨t.rb, 0, none⟩))) (by kernel_rfl) (by first | (exact ⟨e0, d1⟩)) (fun hHeld => ?_)
 refine tkW 0 ?_; refine tkW 1 ?_; refine tkN 2 ?_; refine tkW 3 ?_; refine tkW 4 ?_; refine tkW 5 ?_; refine tkN 6 ?_; refine tkW 7 ?_
 refine wpAnyL_done (by kernel_rfl) ?_
 go_wp2_with fail
 refine wp_region_last (n := 12) (S := fun W => W.cell? ⟨w.heap.size, 2, none⟩ = some (.string o.nm)) (by kernel_rfl) (by first | (exact b2)) (fun hHeld => ?_)
 refine tkW 0 ?_; refine tkW 1 ?_; refine tkN 2 ?_; refine tkW 5 ?_; refine tkW 6 ?_; refine tkN 7 ?_
 refine wpAnyL_one (i := 3) (by kernel_rfl) rfl (fun KK hK => ?_)
 go_simp
 go_at_call 41
 refine (uh HA).mono ?_
 rintro r w2 ⟨rfl, S2, hd2, hs2⟩
 have D2 := hide hd2
 have Q2 := hide hs2
 clear hd2 hs2
 have m2 := (World.cell?_of_block (a := ⟨w.heap.size, 2, none⟩) (uh HBX2 w2 S2 (uh Q2))).trans b2
 refine hK.out _ _ (by first | (exact m2)) (fun hHeld => ?_)
 clear hK KK
 refine wpAnyL_one (i := 4) (by kernel_rfl) rfl (fun KK hK => ?_)
 go_simp
 go_at_call 38
 refine (num_any _ _).mono ?_
 rintro r wz ⟨rfl, hw⟩
 rw [hw]
 clear hw wz
 refine hK.out _ _ (by first | (exact m2)) (fun hHeld => ?_)
 clear hK KK
 refine wpAnyL_one (i := 8) (by kernel_rfl) rfl (fun KK hK => ?_)
 go_simp
 go_at_call 100
 refine (uh HR w2 S2 (uh Q2)).mono ?_
 rintro r w3 ⟨rfl, V3, hd3, hs3⟩
 have D3 := hide hd3
 have Q3 := hide hs3
 clear hd3 hs3
 have n2 := (World.cell?_of_block (a := ⟨w.heap.size, 2, none⟩) (uh HBX3 w2 S2 (uh Q2) w3 V3 (uh Q3))).trans m2
 refine hK.out _ _ (by first | (exact n2)) (fun hHeld => ?_)
 clear hK KK
 refine wpAnyL_one (i := 9) (by kernel_rfl) rfl (fun KK hK => ?_)
 go_simp
 go_at_call 38
 refine (num_any _ _).mono ?_
 rintro r wz ⟨rfl, hw⟩
 rw [hw]
 clear hw wz
 refine hK.out _ _ (by first | (exact n2)) (fun hHeld => ?_)
 clear hK KK
 refine tkW 10 ?_; refine tkW 11 ?_
 refine wpAnyL_done (by kernel_rfl) ?_
 go_wp2_with fail
 go_ret
 exact ⟨rfl, uh HF w2 S2 (uh D2) (uh Q2) w3 V3 (uh D3) (uh Q3)⟩
theorem changes_remove {w0 w : World} {y N j : Nat} {T : Nat -> Option Tw} {U : Nat -> Prop} (h : PlayIs w0 w y N T U) (hj : j < 3) {t : Tw} (ht : T j = some t) (hN : N < 800000) (o : OpV) (hd : o.d = (j : Int)) (hk : o.kd = 7) (ho : OpIn w0 o) :
  Calls Tryz.prog 15 #[.pointer (some ⟨y, 0, none⟩), o.val] w fun e w' => e = .returned (.bool true) /\ ∃ T' U', PlayIs w0 w' y (N + 64) T' U' := by
 have hT := h.tw j hj t ht
 have hN9 : N < 1000000 := by omega
 have hf : t.K.fuse <= 9223372036854775807 := by have := hT.i.fu1; omega
 have hf0 : -9223372036854775808 <= t.K.fuse := by have := hT.i.fu0; omega
 have hl := hT.i.many
 have hs : o.nm.size <= maxLen := by have := ho.nm; unfold maxLen; omega
 have hs2 : o.to.size <= maxLen := by have := ho.to; unfold maxLen; omega
 have hp1 := h.p j hj
 have hd1 := h.d j hj
 rw [ht] at hp1 hd1
 have hp1 : w.cell? ⟨y, j, none⟩ = some (.pointer (some ⟨t.pb, 0, none⟩)) := hp1
 have hd1 : w.cell? ⟨y, 3 + j, none⟩ = some (.pointer (some ⟨t.rb, 0, none⟩)) := hd1
 have hyl := h.kb.lt
 obtain ⟨w1, hw1⟩ : ∃ w1, w1 = w.alloc (.cells #[.int .i64 (j : Int), .int .i64 7, .string o.nm, .string o.to, .slice o.pu o.b2.length o.cu, .int .i64 o.pos, .int .i64 o.n, .slice o.pk o.ks.length o.ck, .int .i64 o.cp, .slice o.pf o.fs.length o.cf, .int .i64 o.fu, .bool o.dn] 61) := ⟨_, rfl⟩
 have B1 : Hid (Below w.heap.size w w1) := by rw [hw1]; exact bal (Below.refl _ _) _
 have hz1 : w1.heap.size = w.heap.size + 1 := by rw [hw1]; simp
 have e0 : w1.cell? ⟨w.heap.size, 0, none⟩ = some (.int .i64 (j : Int)) := by rw [hw1]; simp
 have e1 : w1.cell? ⟨w.heap.size, 1, none⟩ = some (.int .i64 7) := by rw [hw1]; simp
 have b2 : w1.cell? ⟨w.heap.size, 2, none⟩ = some (.string o.nm) := by rw [hw1]; simp
 have p1 : w1.cell? ⟨y, j, none⟩ = some (.pointer (some ⟨t.pb, 0, none⟩)) := keep1 (uh B1) hyl hp1
 have d1 : w1.cell? ⟨y, 3 + j, none⟩ = some (.pointer (some ⟨t.rb, 0, none⟩)) := keep1 (uh B1) hyl hd1
 have B1d : Hid (Below w.heap.size w w1.drew.drew.drew) := (uh B1).drew.drew.drew
 have hbox : ¬ t.S w.heap.size := fun e => by have := hT.p.sl _ e; omega
 have hboxV : ¬ t.V w.heap.size := fun e => by have := hT.r.sl _ e; omega
 have HA : Hid (Calls Tryz.prog 103 #[.pointer (some ⟨t.pb, 0, none⟩), .string o.nm] w1.drew.drew.drew fun e w2 => e = .returned (.int .i64 (chgK t.K (erF o.nm t.K) (delF o.nm.data.toList t.K.A)).2) /\ ∃ S2, DiskOK w2 t.pb (N + 1) (chgK t.K (erF o.nm t.K) (delF o.nm.data.toList t.K.A)).1 S2 /\ Sep w1.drew.drew.drew w2 t.S S2) := by
  obtain ⟨mo, n, es, hD⟩ := hT.p.below (uh B1d)
  exact (remove_ok hD hN9 hf o.nm hs).mono (fun e w2 hh => hh)
 have HR : Hid (∀ w2 S2, Sep w1.drew.drew.drew w2 t.S S2 -> Calls Tryz.prog 104 #[.pointer (some ⟨t.rb, 0, none⟩), .string o.nm] w2 fun e w3 => e = .returned (.int .i64 (chgK t.K (erF o.nm t.K) (delF o.nm.data.toList t.K.A)).2) /\ ∃ V3, RefOK w3 t.rb (chgK t.K (erF o.nm t.K) (delF o.nm.data.toList t.K.A)).1 V3 /\ Sep w2 w3 t.V V3) := fun w2 S2 hs' => by
  have hR := (hT.r.below (uh B1d)).sep hs' (fun q hq e => hT.a q e hq)
  exact (rremove_ok hR hl hT.i.ord hf hf0 o.nm ho.nm).mono (fun e w3 hh => hh)
 have HBX2 : Hid (∀ w2 S2, Sep w1.drew.drew.drew w2 t.S S2 -> w2.heap[w.heap.size]? = w1.heap[w.heap.size]?) := fun w2 S2 hs' => hs'.block w.heap.size (show w.heap.size < w1.heap.size by omega) hbox
 have HBX3 : Hid (∀ w2 S2, Sep w1.drew.drew.drew w2 t.S S2 -> ∀ w3 V3, Sep w2 w3 t.V V3 -> w3.heap[w.heap.size]? = w2.heap[w.heap.size]?) := fun w2 S2 hs' w3 V3 hs'' => hs''.block w.heap.size (Nat.lt_of_lt_of_le (show w.heap.size < w1.heap.size by omega) hs'.size) hboxV
 have HF : Hid (∀ w2 S2, DiskOK w2 t.pb (N + 1) (chgK t.K (erF o.nm t.K) (delF o.nm.data.toList t.K.A)).1 S2 -> Sep w1.drew.drew.drew w2 t.S S2 -> ∀ w3 V3, RefOK w3 t.rb (chgK t.K (erF o.nm t.K) (delF o.nm.data.toList t.K.A)).1 V3 -> Sep w2 w3 t.V V3 -> ∃ T' U', PlayIs w0 w3 y (N + 64) T' U') := fun w2 S2 hd2 hs2 w3 V3 hd3 hs3 => ⟨_, U, (h.pair hj ht (uh B1d) hd2 hs2 hd3 hs3 (hT.i.remove o.nm) (by omega)).mono (by omega)⟩
 obtain ⟨X, hX⟩ : ∃ X : Int, X = (chgK t.K (erF o.nm t.K) (delF o.nm.data.toList t.K.A)).2 := ⟨_, rfl⟩
 rw [<- hX] at HA HR
 have hjI : (0 : Int) <= (j : Int) := by omega
 have hjI3 : (j : Int) < 3 := by omega
 unfold OpV.val
 rw [hd, hk]
 clear h hT hN9 hf hf0 hl hs hs2 hp1 hd1 hX ht hd hk ho hbox hboxV
 go_enter Tryz.func15, Tryz.ntmps15
 go_wp2_with fail
 rw [<- hw1]
 clear hw1
 refine wp_region_last (n := 8) (S := fun W => W.cell? ⟨w.heap.size, 0, none⟩ = some (.int .i64 (j : Int)) /\ W.cell? ⟨y, j, none⟩ = some (.pointer (some ⟨t.pb, 0, none⟩))) (by kernel_rfl) (by first | (exact ⟨e0, p1⟩)) (fun hHeld => ?_)
 refine tkW 0 ?_; refine tkW 1 ?_; refine tkN 2 ?_; refine tkW 3 ?_; refine tkW 4 ?_; refine tkW 5 ?_; refine tkN 6 ?_; refine tkW 7 ?_
 refine wpAnyL_done (by kernel_rfl) ?_
 go_wp2_with fail
 refine wp_region_last (n := 8) (S := fun W => W.cell? ⟨w.heap.size, 0, none⟩ = some (.int .i64 (j : Int)) /\ W.cell? ⟨y, 3 + j, none⟩ = some (.pointer (some ⟨t.rb, 0, none⟩))) (by kernel_rfl) (by first | (exact ⟨e0, d1⟩)) (fun hHeld => ?_)
 refine tkW 0 ?_; refine tkW 1 ?_; refine tkN 2 ?_; refine tkW 3 ?_; refine tkW 4 ?_; refine tkW 5 ?_; refine tkN 6 ?_; refine tkW 7 ?_
 refine wpAnyL_done (by kernel_rfl) ?_
 go_wp2_with fail
 refine wp_region_last (n := 12) (S := fun W => W.cell? ⟨w.heap.size, 2, none⟩ = some (.string o.nm)) (by kernel_rfl) (by first | (exact b2)) (fun hHeld => ?_)
 refine tkW 0 ?_; refine tkW 1 ?_; refine tkN 2 ?_; refine tkW 5 ?_; refine tkW 6 ?_; refine tkN 7 ?_
 refine wpAnyL_one (i := 3) (by kernel_rfl) rfl (fun KK hK => ?_)
 go_simp
 go_at_call 103
 refine (uh HA).mono ?_
 rintro r w2 ⟨rfl, S2, hd2, hs2⟩
 have D2 := hide hd2
 have Q2 := hide hs2
 clear hd2 hs2
 have m2 := (World.cell?_of_block (a := ⟨w.heap.size, 2, none⟩) (uh HBX2 w2 S2 (uh Q2))).trans b2
 refine hK.out _ _ (by first | (exact m2)) (fun hHeld => ?_)
 clear hK KK
 refine wpAnyL_one (i := 4) (by kernel_rfl) rfl (fun KK hK => ?_)
 go_simp
 go_at_call 38
 refine (num_any _ _).mono ?_
 rintro r wz ⟨rfl, hw⟩
 rw [hw]
 clear hw wz
 refine hK.out _ _ (by first | (exact m2)) (fun hHeld => ?_)
 clear hK KK
 refine wpAnyL_one (i := 8) (by kernel_rfl) rfl (fun KK hK => ?_)
 go_simp
 go_at_call 104
 refine (uh HR w2 S2 (uh Q2)).mono ?_
 rintro r w3 ⟨rfl, V3, hd3, hs3⟩
 have D3 := hide hd3
 have Q3 := hide hs3
 clear hd3 hs3
 have n2 := (World.cell?_of_block (a := ⟨w.heap.size, 2, none⟩) (uh HBX3 w2 S2 (uh Q2) w3 V3 (uh Q3))).trans m2
 refine hK.out _ _ (by first | (exact n2)) (fun hHeld => ?_)
 clear hK KK
 refine wpAnyL_one (i := 9) (by kernel_rfl) rfl (fun KK hK => ?_)
 go_simp
 go_at_call 38
 refine (num_any _ _).mono ?_
 rintro r wz ⟨rfl, hw⟩
 rw [hw]
 clear hw wz
 refine hK.out _ _ (by first | (exact n2)) (fun hHeld => ?_)
 clear hK KK
 refine tkW 10 ?_; refine tkW 11 ?_
 refine wpAnyL_done (by kernel_rfl) ?_
 go_wp2_with fail
 go_ret
 exact ⟨rfl, uh HF w2 S2 (uh D2) (uh Q2) w3 V3 (uh D3) (uh Q3)⟩
theorem changes_rename {w0 w : World} {y N j : Nat} {T : Nat -> Option Tw} {U : Nat -> Prop} (h : PlayIs w0 w y N T U) (hj : j < 3) {t : Tw} (ht : T j = some t) (hN : N < 800000) (o : OpV) (hd : o.d = (j : Int)) (hk : o.kd = 6) (ho : OpIn w0 o) :
  Calls Tryz.prog 15 #[.pointer (some ⟨y, 0, none⟩), o.val] w fun e w' => e = .returned (.bool true) /\ ∃ T' U', PlayIs w0 w' y (N + 64) T' U' := by
 have hT := h.tw j hj t ht
 have hN9 : N < 1000000 := by omega
 have hf : t.K.fuse <= 9223372036854775807 := by have := hT.i.fu1; omega
 have hf0 : -9223372036854775808 <= t.K.fuse := by have := hT.i.fu0; omega
 have hl := hT.i.many
 have hs : o.nm.size <= maxLen := by have := ho.nm; unfold maxLen; omega
 have hs2 : o.to.size <= maxLen := by have := ho.to; unfold maxLen; omega
 have hp1 := h.p j hj
 have hd1 := h.d j hj
 rw [ht] at hp1 hd1
 have hp1 : w.cell? ⟨y, j, none⟩ = some (.pointer (some ⟨t.pb, 0, none⟩)) := hp1
 have hd1 : w.cell? ⟨y, 3 + j, none⟩ = some (.pointer (some ⟨t.rb, 0, none⟩)) := hd1
 have hyl := h.kb.lt
 obtain ⟨w1, hw1⟩ : ∃ w1, w1 = w.alloc (.cells #[.int .i64 (j : Int), .int .i64 6, .string o.nm, .string o.to, .slice o.pu o.b2.length o.cu, .int .i64 o.pos, .int .i64 o.n, .slice o.pk o.ks.length o.ck, .int .i64 o.cp, .slice o.pf o.fs.length o.cf, .int .i64 o.fu, .bool o.dn] 61) := ⟨_, rfl⟩
 have B1 : Hid (Below w.heap.size w w1) := by rw [hw1]; exact bal (Below.refl _ _) _
 have hz1 : w1.heap.size = w.heap.size + 1 := by rw [hw1]; simp
 have e0 : w1.cell? ⟨w.heap.size, 0, none⟩ = some (.int .i64 (j : Int)) := by rw [hw1]; simp
 have e1 : w1.cell? ⟨w.heap.size, 1, none⟩ = some (.int .i64 6) := by rw [hw1]; simp
 have b2 : w1.cell? ⟨w.heap.size, 2, none⟩ = some (.string o.nm) := by rw [hw1]; simp
 have b3 : w1.cell? ⟨w.heap.size, 3, none⟩ = some (.string o.to) := by rw [hw1]; simp
 have p1 : w1.cell? ⟨y, j, none⟩ = some (.pointer (some ⟨t.pb, 0, none⟩)) := keep1 (uh B1) hyl hp1
 have d1 : w1.cell? ⟨y, 3 + j, none⟩ = some (.pointer (some ⟨t.rb, 0, none⟩)) := keep1 (uh B1) hyl hd1
 have B1d : Hid (Below w.heap.size w w1.drew.drew.drew) := (uh B1).drew.drew.drew
 have hbox : ¬ t.S w.heap.size := fun e => by have := hT.p.sl _ e; omega
 have hboxV : ¬ t.V w.heap.size := fun e => by have := hT.r.sl _ e; omega
 have HA : Hid (Calls Tryz.prog 101 #[.pointer (some ⟨t.pb, 0, none⟩), .string o.nm, .string o.to] w1.drew.drew.drew fun e w2 => e = .returned (.int .i64 (chgK t.K (erR o.nm o.to t.K) (renA o.nm o.to t.K)).2) /\ ∃ S2, DiskOK w2 t.pb (N + 1) (chgK t.K (erR o.nm o.to t.K) (renA o.nm o.to t.K)).1 S2 /\ Sep w1.drew.drew.drew w2 t.S S2) := by
  obtain ⟨mo, n, es, hD⟩ := hT.p.below (uh B1d)
  exact (rename_ok hD hN9 hf o.nm o.to hs hs2).mono (fun e w2 hh => hh)
 have HR : Hid (∀ w2 S2, Sep w1.drew.drew.drew w2 t.S S2 -> Calls Tryz.prog 102 #[.pointer (some ⟨t.rb, 0, none⟩), .string o.nm, .string o.to] w2 fun e w3 => e = .returned (.int .i64 (chgK t.K (erR o.nm o.to t.K) (renA o.nm o.to t.K)).2) /\ ∃ V3, RefOK w3 t.rb (chgK t.K (erR o.nm o.to t.K) (renA o.nm o.to t.K)).1 V3 /\ Sep w2 w3 t.V V3) := fun w2 S2 hs' => by
  have hR := (hT.r.below (uh B1d)).sep hs' (fun q hq e => hT.a q e hq)
  exact (rrename_ok hR hl hT.i.ord hf hf0 o.nm o.to ho.nm ho.to).mono (fun e w3 hh => hh)
 have HBX2 : Hid (∀ w2 S2, Sep w1.drew.drew.drew w2 t.S S2 -> w2.heap[w.heap.size]? = w1.heap[w.heap.size]?) := fun w2 S2 hs' => hs'.block w.heap.size (show w.heap.size < w1.heap.size by omega) hbox
 have HBX3 : Hid (∀ w2 S2, Sep w1.drew.drew.drew w2 t.S S2 -> ∀ w3 V3, Sep w2 w3 t.V V3 -> w3.heap[w.heap.size]? = w2.heap[w.heap.size]?) := fun w2 S2 hs' w3 V3 hs'' => hs''.block w.heap.size (Nat.lt_of_lt_of_le (show w.heap.size < w1.heap.size by omega) hs'.size) hboxV
 have HF : Hid (∀ w2 S2, DiskOK w2 t.pb (N + 1) (chgK t.K (erR o.nm o.to t.K) (renA o.nm o.to t.K)).1 S2 -> Sep w1.drew.drew.drew w2 t.S S2 -> ∀ w3 V3, RefOK w3 t.rb (chgK t.K (erR o.nm o.to t.K) (renA o.nm o.to t.K)).1 V3 -> Sep w2 w3 t.V V3 -> ∃ T' U', PlayIs w0 w3 y (N + 64) T' U') := fun w2 S2 hd2 hs2 w3 V3 hd3 hs3 => ⟨_, U, (h.pair hj ht (uh B1d) hd2 hs2 hd3 hs3 (hT.i.rename o.nm o.to) (by omega)).mono (by omega)⟩
 obtain ⟨X, hX⟩ : ∃ X : Int, X = (chgK t.K (erR o.nm o.to t.K) (renA o.nm o.to t.K)).2 := ⟨_, rfl⟩
 rw [<- hX] at HA HR
 have hjI : (0 : Int) <= (j : Int) := by omega
 have hjI3 : (j : Int) < 3 := by omega
 unfold OpV.val
 rw [hd, hk]
 clear h hT hN9 hf hf0 hl hs hs2 hp1 hd1 hX ht hd hk ho hbox hboxV
 go_enter Tryz.func15, Tryz.ntmps15
 go_wp2_with fail
 rw [<- hw1]
 clear hw1
 refine wp_region_last (n := 8) (S := fun W => W.cell? ⟨w.heap.size, 0, none⟩ = some (.int .i64 (j : Int)) /\ W.cell? ⟨y, j, none⟩ = some (.pointer (some ⟨t.pb, 0, none⟩))) (by kernel_rfl) (by first | (exact ⟨e0, p1⟩)) (fun hHeld => ?_)
 refine tkW 0 ?_; refine tkW 1 ?_; refine tkN 2 ?_; refine tkW 3 ?_; refine tkW 4 ?_; refine tkW 5 ?_; refine tkN 6 ?_; refine tkW 7 ?_
 refine wpAnyL_done (by kernel_rfl) ?_
 go_wp2_with fail
 refine wp_region_last (n := 8) (S := fun W => W.cell? ⟨w.heap.size, 0, none⟩ = some (.int .i64 (j : Int)) /\ W.cell? ⟨y, 3 + j, none⟩ = some (.pointer (some ⟨t.rb, 0, none⟩))) (by kernel_rfl) (by first | (exact ⟨e0, d1⟩)) (fun hHeld => ?_)
 refine tkW 0 ?_; refine tkW 1 ?_; refine tkN 2 ?_; refine tkW 3 ?_; refine tkW 4 ?_; refine tkW 5 ?_; refine tkN 6 ?_; refine tkW 7 ?_
 refine wpAnyL_done (by kernel_rfl) ?_
 go_wp2_with fail
 refine wp_region_last (n := 16) (S := fun W => W.cell? ⟨w.heap.size, 2, none⟩ = some (.string o.nm) /\ W.cell? ⟨w.heap.size, 3, none⟩ = some (.string o.to)) (by kernel_rfl) (by first | (exact ⟨b2, b3⟩)) (fun hHeld => ?_)
 refine tkW 0 ?_; refine tkW 1 ?_; refine tkN 2 ?_; refine tkW 3 ?_; refine tkN 4 ?_; refine tkW 7 ?_; refine tkW 8 ?_; refine tkN 9 ?_; refine tkW 10 ?_; refine tkN 11 ?_
 refine wpAnyL_one (i := 5) (by kernel_rfl) rfl (fun KK hK => ?_)
 go_simp
 go_at_call 101
 refine (uh HA).mono ?_
 rintro r w2 ⟨rfl, S2, hd2, hs2⟩
 have D2 := hide hd2
 have Q2 := hide hs2
 clear hd2 hs2
 have m2 := (World.cell?_of_block (a := ⟨w.heap.size, 2, none⟩) (uh HBX2 w2 S2 (uh Q2))).trans b2
 have m3 := (World.cell?_of_block (a := ⟨w.heap.size, 3, none⟩) (uh HBX2 w2 S2 (uh Q2))).trans b3
 refine hK.out _ _ (by first | (exact ⟨m2, m3⟩)) (fun hHeld => ?_)
 clear hK KK
 refine wpAnyL_one (i := 6) (by kernel_rfl) rfl (fun KK hK => ?_)
 go_simp
 go_at_call 38
 refine (num_any _ _).mono ?_
 rintro r wz ⟨rfl, hw⟩
 rw [hw]
 clear hw wz
 refine hK.out _ _ (by first | (exact ⟨m2, m3⟩)) (fun hHeld => ?_)
 clear hK KK
 refine wpAnyL_one (i := 12) (by kernel_rfl) rfl (fun KK hK => ?_)
 go_simp
 go_at_call 102
 refine (uh HR w2 S2 (uh Q2)).mono ?_
 rintro r w3 ⟨rfl, V3, hd3, hs3⟩
 have D3 := hide hd3
 have Q3 := hide hs3
 clear hd3 hs3
 have n2 := (World.cell?_of_block (a := ⟨w.heap.size, 2, none⟩) (uh HBX3 w2 S2 (uh Q2) w3 V3 (uh Q3))).trans m2
 have n3 := (World.cell?_of_block (a := ⟨w.heap.size, 3, none⟩) (uh HBX3 w2 S2 (uh Q2) w3 V3 (uh Q3))).trans m3
 refine hK.out _ _ (by first | (exact ⟨n2, n3⟩)) (fun hHeld => ?_)
 clear hK KK
 refine wpAnyL_one (i := 13) (by kernel_rfl) rfl (fun KK hK => ?_)
 go_simp
 go_at_call 38
 refine (num_any _ _).mono ?_
 rintro r wz ⟨rfl, hw⟩
 rw [hw]
 clear hw wz
 refine hK.out _ _ (by first | (exact ⟨n2, n3⟩)) (fun hHeld => ?_)
 clear hK KK
 refine tkW 14 ?_; refine tkW 15 ?_
 refine wpAnyL_done (by kernel_rfl) ?_
 go_wp2_with fail
 go_ret
 exact ⟨rfl, uh HF w2 S2 (uh D2) (uh Q2) w3 V3 (uh D3) (uh Q3)⟩
theorem changes_fuse {w0 w : World} {y N j : Nat} {T : Nat -> Option Tw} {U : Nat -> Prop} (h : PlayIs w0 w y N T U) (hj : j < 3) {t : Tw} (ht : T j = some t) (hN : N < 800000) (o : OpV) (hd : o.d = (j : Int)) (hk : o.kd = 12) (ho : OpIn w0 o) :
  Calls Tryz.prog 15 #[.pointer (some ⟨y, 0, none⟩), o.val] w fun e w' => e = .returned (.bool true) /\ ∃ T' U', PlayIs w0 w' y (N + 64) T' U' := by
 have hT := h.tw j hj t ht
 have hN9 : N < 1000000 := by omega
 have hf : t.K.fuse <= 9223372036854775807 := by have := hT.i.fu1; omega
 have hf0 : -9223372036854775808 <= t.K.fuse := by have := hT.i.fu0; omega
 have hl := hT.i.many
 have hs : o.nm.size <= maxLen := by have := ho.nm; unfold maxLen; omega
 have hs2 : o.to.size <= maxLen := by have := ho.to; unfold maxLen; omega
 have hp1 := h.p j hj
 have hd1 := h.d j hj
 rw [ht] at hp1 hd1
 have hp1 : w.cell? ⟨y, j, none⟩ = some (.pointer (some ⟨t.pb, 0, none⟩)) := hp1
 have hd1 : w.cell? ⟨y, 3 + j, none⟩ = some (.pointer (some ⟨t.rb, 0, none⟩)) := hd1
 have hyl := h.kb.lt
 obtain ⟨w1, hw1⟩ : ∃ w1, w1 = w.alloc (.cells #[.int .i64 (j : Int), .int .i64 12, .string o.nm, .string o.to, .slice o.pu o.b2.length o.cu, .int .i64 o.pos, .int .i64 o.n, .slice o.pk o.ks.length o.ck, .int .i64 o.cp, .slice o.pf o.fs.length o.cf, .int .i64 o.fu, .bool o.dn] 61) := ⟨_, rfl⟩
 have B1 : Hid (Below w.heap.size w w1) := by rw [hw1]; exact bal (Below.refl _ _) _
 have hz1 : w1.heap.size = w.heap.size + 1 := by rw [hw1]; simp
 have e0 : w1.cell? ⟨w.heap.size, 0, none⟩ = some (.int .i64 (j : Int)) := by rw [hw1]; simp
 have e1 : w1.cell? ⟨w.heap.size, 1, none⟩ = some (.int .i64 12) := by rw [hw1]; simp
 have b6 : w1.cell? ⟨w.heap.size, 6, none⟩ = some (.int .i64 o.n) := by rw [hw1]; simp
 have p1 : w1.cell? ⟨y, j, none⟩ = some (.pointer (some ⟨t.pb, 0, none⟩)) := keep1 (uh B1) hyl hp1
 have d1 : w1.cell? ⟨y, 3 + j, none⟩ = some (.pointer (some ⟨t.rb, 0, none⟩)) := keep1 (uh B1) hyl hd1
 have B1d : Hid (Below w.heap.size w w1.drew.drew.drew) := (uh B1).drew.drew.drew
 have hbox : ¬ t.S w.heap.size := fun e => by have := hT.p.sl _ e; omega
 have hboxV : ¬ t.V w.heap.size := fun e => by have := hT.r.sl _ e; omega
 have HA : Hid (Calls Tryz.prog 105 #[.pointer (some ⟨t.pb, 0, none⟩), .int .i64 o.n] w1.drew.drew.drew fun e w2 => e = .returned (.int .i64 (fuseK t.K o.n).2) /\ ∃ S2, DiskOK w2 t.pb (N) (fuseK t.K o.n).1 S2 /\ Sep w1.drew.drew.drew w2 t.S S2) := by
  obtain ⟨mo, n, es, hD⟩ := hT.p.below (uh B1d)
  exact (fuse_ok hD o.n).mono (fun e w2 hh => ⟨hh.1, _, hh.2.1, hh.2.2⟩)
 have HR : Hid (∀ w2 S2, Sep w1.drew.drew.drew w2 t.S S2 -> Calls Tryz.prog 106 #[.pointer (some ⟨t.rb, 0, none⟩), .int .i64 o.n] w2 fun e w3 => e = .returned (.int .i64 (fuseK t.K o.n).2) /\ ∃ V3, RefOK w3 t.rb (fuseK t.K o.n).1 V3 /\ Sep w2 w3 t.V V3) := fun w2 S2 hs' => by
  have hR := (hT.r.below (uh B1d)).sep hs' (fun q hq e => hT.a q e hq)
  exact (rfuse_ok hR o.n).mono (fun e w3 hh => ⟨hh.1, _, hh.2.1, hh.2.2⟩)
 have HBX2 : Hid (∀ w2 S2, Sep w1.drew.drew.drew w2 t.S S2 -> w2.heap[w.heap.size]? = w1.heap[w.heap.size]?) := fun w2 S2 hs' => hs'.block w.heap.size (show w.heap.size < w1.heap.size by omega) hbox
 have HBX3 : Hid (∀ w2 S2, Sep w1.drew.drew.drew w2 t.S S2 -> ∀ w3 V3, Sep w2 w3 t.V V3 -> w3.heap[w.heap.size]? = w2.heap[w.heap.size]?) := fun w2 S2 hs' w3 V3 hs'' => hs''.block w.heap.size (Nat.lt_of_lt_of_le (show w.heap.size < w1.heap.size by omega) hs'.size) hboxV
 have HF : Hid (∀ w2 S2, DiskOK w2 t.pb (N) (fuseK t.K o.n).1 S2 -> Sep w1.drew.drew.drew w2 t.S S2 -> ∀ w3 V3, RefOK w3 t.rb (fuseK t.K o.n).1 V3 -> Sep w2 w3 t.V V3 -> ∃ T' U', PlayIs w0 w3 y (N + 64) T' U') := fun w2 S2 hd2 hs2 w3 V3 hd3 hs3 => ⟨_, U, (h.pair hj ht (uh B1d) hd2 hs2 hd3 hs3 (inv_fuse hT.i o.n) (by omega)).mono (by omega)⟩
 obtain ⟨X, hX⟩ : ∃ X : Int, X = (fuseK t.K o.n).2 := ⟨_, rfl⟩
 rw [<- hX] at HA HR
 have hjI : (0 : Int) <= (j : Int) := by omega
 have hjI3 : (j : Int) < 3 := by omega
 unfold OpV.val
 rw [hd, hk]
 clear h hT hN9 hf hf0 hl hs hs2 hp1 hd1 hX ht hd hk ho hbox hboxV
 go_enter Tryz.func15, Tryz.ntmps15
 go_wp2_with fail
 rw [<- hw1]
 clear hw1
 refine wp_region_last (n := 8) (S := fun W => W.cell? ⟨w.heap.size, 0, none⟩ = some (.int .i64 (j : Int)) /\ W.cell? ⟨y, j, none⟩ = some (.pointer (some ⟨t.pb, 0, none⟩))) (by kernel_rfl) (by first | (exact ⟨e0, p1⟩)) (fun hHeld => ?_)
 refine tkW 0 ?_; refine tkW 1 ?_; refine tkN 2 ?_; refine tkW 3 ?_; refine tkW 4 ?_; refine tkW 5 ?_; refine tkN 6 ?_; refine tkW 7 ?_
 refine wpAnyL_done (by kernel_rfl) ?_
 go_wp2_with fail
 refine wp_region_last (n := 8) (S := fun W => W.cell? ⟨w.heap.size, 0, none⟩ = some (.int .i64 (j : Int)) /\ W.cell? ⟨y, 3 + j, none⟩ = some (.pointer (some ⟨t.rb, 0, none⟩))) (by kernel_rfl) (by first | (exact ⟨e0, d1⟩)) (fun hHeld => ?_)
 refine tkW 0 ?_; refine tkW 1 ?_; refine tkN 2 ?_; refine tkW 3 ?_; refine tkW 4 ?_; refine tkW 5 ?_; refine tkN 6 ?_; refine tkW 7 ?_
 refine wpAnyL_done (by kernel_rfl) ?_
 go_wp2_with fail
 refine wp_region_last (n := 12) (S := fun W => W.cell? ⟨w.heap.size, 6, none⟩ = some (.int .i64 o.n)) (by kernel_rfl) (by first | (exact b6)) (fun hHeld => ?_)
 refine tkW 0 ?_; refine tkW 1 ?_; refine tkN 2 ?_; refine tkW 5 ?_; refine tkW 6 ?_; refine tkN 7 ?_
 refine wpAnyL_one (i := 3) (by kernel_rfl) rfl (fun KK hK => ?_)
 go_simp
 go_at_call 105
 refine (uh HA).mono ?_
 rintro r w2 ⟨rfl, S2, hd2, hs2⟩
 have D2 := hide hd2
 have Q2 := hide hs2
 clear hd2 hs2
 have m6 := (World.cell?_of_block (a := ⟨w.heap.size, 6, none⟩) (uh HBX2 w2 S2 (uh Q2))).trans b6
 refine hK.out _ _ (by first | (exact m6)) (fun hHeld => ?_)
 clear hK KK
 refine wpAnyL_one (i := 4) (by kernel_rfl) rfl (fun KK hK => ?_)
 go_simp
 go_at_call 38
 refine (num_any _ _).mono ?_
 rintro r wz ⟨rfl, hw⟩
 rw [hw]
 clear hw wz
 refine hK.out _ _ (by first | (exact m6)) (fun hHeld => ?_)
 clear hK KK
 refine wpAnyL_one (i := 8) (by kernel_rfl) rfl (fun KK hK => ?_)
 go_simp
 go_at_call 106
 refine (uh HR w2 S2 (uh Q2)).mono ?_
 rintro r w3 ⟨rfl, V3, hd3, hs3⟩
 have D3 := hide hd3
 have Q3 := hide hs3
 clear hd3 hs3
 have n6 := (World.cell?_of_block (a := ⟨w.heap.size, 6, none⟩) (uh HBX3 w2 S2 (uh Q2) w3 V3 (uh Q3))).trans m6
 refine hK.out _ _ (by first | (exact n6)) (fun hHeld => ?_)
 clear hK KK
 refine wpAnyL_one (i := 9) (by kernel_rfl) rfl (fun KK hK => ?_)
 go_simp
 go_at_call 38
 refine (num_any _ _).mono ?_
 rintro r wz ⟨rfl, hw⟩
 rw [hw]
 clear hw wz
 refine hK.out _ _ (by first | (exact n6)) (fun hHeld => ?_)
 clear hK KK
 refine tkW 10 ?_; refine tkW 11 ?_
 refine wpAnyL_done (by kernel_rfl) ?_
 go_wp2_with fail
 go_ret
 exact ⟨rfl, uh HF w2 S2 (uh D2) (uh Q2) w3 V3 (uh D3) (uh Q3)⟩
theorem bytes_front {W : World} {B g c : Nat} {bs : List UInt8} {h : Nat -> Nat} (hr : W.ownsRow B 5 1 (.slice (some ⟨g, 0, none⟩) (bs.length + 64) c) (bs.length + 64) (Kp.bcells (Kp.cat (fun j => (bs[j]?.getD 0).toNat) bs.length h) (bs.length + 64))) : BytesAt W (.slice (some ⟨g, 0, none⟩) bs.length c) bs := by
 refine .inr ⟨g, 0, c, rfl, fun j u hj => ?_⟩
 have hj' : j < bs.length := by have := (List.getElem?_eq_some_iff.1 hj).1; simpa [bcs] using this
 rw [bcs_cells, Kp.bcells_get _ _ _ hj'] at hj
 rw [Nat.zero_add, hr.cellAt j (by omega), Kp.bcells_get _ _ _ (by omega), Kp.cat_lt hj']
 exact hj
theorem in_lt {W : World} {p : Option Addr} {n c : Nat} {bs : List UInt8} (h : BytesIn W (.slice p n c) bs) (hne : bs ≠ []) {q : Nat} (hq : (Value.slice p n c).ownBlock = some q) : q < W.heap.size := by
 rcases h with ⟨_, h1⟩ | ⟨a, c', h1, h2⟩
 ·exact absurd h1 hne
 ·injection h1 with h1 _ _
  subst h1
  obtain ⟨b, bs', rfl⟩ := List.exists_cons_of_ne_nil hne
  have h3 := World.block_lt_of_cell? W _ (h2 0 _ rfl)
  simp only [Value.ownBlock, Option.some.injEq] at hq
  rw [<- hq]
  simpa [Addr.add] using h3
theorem PlayIs.apart {w0 w w' : World} {y N : Nat} {T : Nat -> Option Tw} {U X X' : Nat -> Prop} (h : PlayIs w0 w y N T U) (hs : Sep w w' X X') (hX : ∀ q, X q -> w0.heap.size <= q /\ q ≠ y /\ ¬ U q /\ ∀ i, i < 3 -> ∀ t, T i = some t -> ¬ t.fp q) : PlayIs w0 w' y N T U :=
 have hy : w'.heap[y]? = w.heap[y]? := hs.block y h.kb.lt (fun e => (hX y e).2.1 rfl)
 h.took (X := X) hs.size hs.os hs.tape hs.output (fun _ _ => World.cell?_of_block hy) (fun q h1 _ _ h2 => hs.block q h1 h2) (fun q hq => .inl hq)
  (h.kb.on hs.size (fun _ _ => World.cell?_of_block hy) (fun _ => World.frozen?_of_block hy) (hs.block 0 (Nat.lt_of_lt_of_le h.z0 h.bl.size) (fun e => by have := (hX 0 e).1; have := h.z0; omega)) (fun q hq => hs.block q (h.kb.ul q hq).2.2 (fun e => (hX q e).2.2.1 hq)))
  (fun q hq => (hX q hq).1) (fun q hq => (hX q hq).2.2.2)
theorem upd_fp {T : Nat -> Option Tw} {j : Nat} {t' : Tw} {P : Tw -> Prop} (h1 : ∀ i, i < 3 -> ∀ t, T i = some t -> P t) (h2 : P t') : ∀ i, i < 3 -> ∀ t, updT T j (some t') i = some t -> P t := fun i hi t ht => by
 by_cases e : i = j
 ·subst e; rw [updT_same] at ht; injection ht with ht; rw [<- ht]; exact h2
 ·rw [updT_other _ _ e] at ht; exact h1 i hi t ht
theorem changes_append {w0 w : World} {y N j : Nat} {T : Nat -> Option Tw} {U : Nat -> Prop} (h : PlayIs w0 w y N T U) (hj : j < 3) {t : Tw} (ht : T j = some t) (hN : N < 800000) (o : OpV) (hd : o.d = (j : Int)) (hk : o.kd = 4) (ho : OpIn w0 o) :
  Calls Tryz.prog 15 #[.pointer (some ⟨y, 0, none⟩), o.val] w fun e w' => e = .returned (.bool true) /\ ∃ T' U', PlayIs w0 w' y (N + 64) T' U' := by
 have hT := h.tw j hj t ht
 have hN9 : N < 1000000 := by omega
 have hf : t.K.fuse <= 9223372036854775807 := by have := hT.i.fu1; omega
 have hf0 : -9223372036854775808 <= t.K.fuse := by have := hT.i.fu0; omega
 have hl := hT.i.many
 have hs : o.nm.size <= maxLen := by have := ho.nm; unfold maxLen; omega
 have hp1 := h.p j hj
 have hd1 := h.d j hj
 rw [ht] at hp1 hd1
 have hp1 : w.cell? ⟨y, j, none⟩ = some (.pointer (some ⟨t.pb, 0, none⟩)) := hp1
 have hd1 : w.cell? ⟨y, 3 + j, none⟩ = some (.pointer (some ⟨t.rb, 0, none⟩)) := hd1
 have hyl := h.kb.lt
 obtain ⟨w1, hw1⟩ : ∃ w1, w1 = w.alloc (.cells #[.int .i64 (j : Int), .int .i64 4, .string o.nm, .string o.to, .slice o.pu o.b2.length o.cu, .int .i64 o.pos, .int .i64 o.n, .slice o.pk o.ks.length o.ck, .int .i64 o.cp, .slice o.pf o.fs.length o.cf, .int .i64 o.fu, .bool o.dn] 61) := ⟨_, rfl⟩
 have B1 : Hid (Below w.heap.size w w1) := by rw [hw1]; exact bal (Below.refl _ _) _
 have hz1 : w1.heap.size = w.heap.size + 1 := by rw [hw1]; simp
 have e0 : w1.cell? ⟨w.heap.size, 0, none⟩ = some (.int .i64 (j : Int)) := by rw [hw1]; simp
 have e1 : w1.cell? ⟨w.heap.size, 1, none⟩ = some (.int .i64 4) := by rw [hw1]; simp
 have b2 : w1.cell? ⟨w.heap.size, 2, none⟩ = some (.string o.nm) := by rw [hw1]; simp
 have b4 : w1.cell? ⟨w.heap.size, 4, none⟩ = some (.slice o.pu o.b2.length o.cu) := by rw [hw1]; simp
 have p1 : w1.cell? ⟨y, j, none⟩ = some (.pointer (some ⟨t.pb, 0, none⟩)) := keep1 (uh B1) hyl hp1
 have d1 : w1.cell? ⟨y, 3 + j, none⟩ = some (.pointer (some ⟨t.rb, 0, none⟩)) := keep1 (uh B1) hyl hd1
 have hbox : ¬ t.S w.heap.size := fun e => by have := hT.p.sl _ e; omega
 have hboxV : ¬ t.V w.heap.size := fun e => by have := hT.r.sl _ e; omega
 have hB0 : ∀ W, Below w.heap.size w W -> Below w0.heap.size w0 W := fun W hb => h.bl.trans (hb.mono h.bl.size)
 have HRM : Hid (Calls Tryz.prog 98 #[.slice o.pu o.b2.length o.cu] w1.drew.drew fun e w' => Kp.RoomOut (fun j => (o.b2[j]?.getD 0).toNat) o.b2.length w1.drew.drew e w') := Kp.room_in ((ho.below (hB0 _ (uh B1).drew.drew)).by') ho.bl
 have hrowS : ∀ w2, Below w.heap.size w w2 -> ∀ {g : Nat}, w1.heap.size <= g -> ¬ t.S g /\ ¬ t.V g := fun w2 hb g hg => ⟨fun e => by have := hT.p.sl _ e; omega, fun e => by have := hT.r.sl _ e; omega⟩
 have HA : Hid (∀ w2, Below w1.heap.size w1 w2 -> ∀ g c, w2.ownsRow w1.heap.size 5 1 (.slice (some ⟨g, 0, none⟩) (o.b2.length + 64) c) (o.b2.length + 64) (Kp.bcells (Kp.cat (fun j => (o.b2[j]?.getD 0).toNat) o.b2.length (Kp.patN 700000)) (o.b2.length + 64)) -> Calls Tryz.prog 40 #[.pointer (some ⟨t.pb, 0, none⟩), .string o.nm, .slice (some ⟨g, 0, none⟩) o.b2.length c] w2.drew fun e w3 => e = .returned (.int .i64 (chgK t.K (erA o.nm o.b2 t.K) (appA o.nm o.b2 t.K)).2) /\ ∃ S3, DiskOK w3 t.pb (N + 1) (chgK t.K (erA o.nm o.b2 t.K) (appA o.nm o.b2 t.K)).1 S3 /\ Sep w2.drew w3 t.S S3) := fun w2 hb g c hr => by
  obtain ⟨mo, n, es, hD⟩ := hT.p.below ((uh B1).trans (hb.mono (uh B1).size)).drew
  have hg := hr.lt g rfl
  refine append_ok hD hN9 hf hT.i.cap1 hT.c0 hT.tt o.nm hs (some ⟨g, 0, none⟩) c o.b2 (bytes_front hr) (fun q hq e => ?_)
  injection hq with hq
  have hq : g = q := hq
  have := hD.at'.lt
  have h9 := hT.p.sl t.pb (by obtain ⟨_, _, _, h8⟩ := hT.p; exact h8.sd)
  omega
 have HR : Hid (∀ w2, Below w1.heap.size w1 w2 -> ∀ w3 S3, Sep w2.drew w3 t.S S3 -> Calls Tryz.prog 99 #[.pointer (some ⟨t.rb, 0, none⟩), .string o.nm, .slice o.pu o.b2.length o.cu] w3 fun e w4 => e = .returned (.int .i64 (chgK t.K (erA o.nm o.b2 t.K) (appA o.nm o.b2 t.K)).2) /\ ∃ V4, RefOK w4 t.rb (chgK t.K (erA o.nm o.b2 t.K) (appA o.nm o.b2 t.K)).1 V4 /\ Sep w3 w4 t.V V4) := fun w2 hb w3 S3 hs' => by
  have hb2 : Below w.heap.size w w2.drew := ((uh B1).trans (hb.mono (uh B1).size)).drew
  have hR := (hT.r.below hb2).sep hs' (fun q hq e => hT.a q e hq)
  have hby := (ho.below ((hB0 _ hb2).trans (hs'.below (fun q hq => h.tl j hj t ht q (.inl hq)) (hB0 _ hb2).size))).by'
  refine rappend_ok hR hl hT.i.ord hf hf0 hT.i.cap1 hT.c0 hT.tt o.nm ho.nm o.pu o.cu o.b2 hby ho.bl (fun hne q hq e => ?_)
  have h9 := h.tl j hj t ht q (.inr e)
  have h8 := in_lt ho.by' hne hq
  omega
 have HBX : Hid (∀ w2, Below w1.heap.size w1 w2 -> ∀ w3 S3, Sep w2.drew w3 t.S S3 -> w3.heap[w.heap.size]? = w2.heap[w.heap.size]?) := fun w2 hb w3 S3 hs' => hs'.block w.heap.size (by have := hb.size; show w.heap.size < w2.heap.size; omega) hbox
 have HLIV : Hid (∀ w2, Below w1.heap.size w1 w2 -> ∀ g, w1.heap.size <= g -> g < w2.heap.size -> ∀ w3 S3, Sep w2.drew w3 t.S S3 -> ∀ w4 V4, Sep w3 w4 t.V V4 -> w4.heap[g]? = w2.heap[g]? /\ ¬ S3 g /\ ¬ V4 g) := fun w2 hb g h1 h2 w3 S3 hs3 w4 V4 hs4 => by
  have h5 : ¬ t.S g := fun e => by have := hT.p.sl _ e; omega
  have h6 : ¬ t.V g := fun e => by have := hT.r.sl _ e; omega
  exact ⟨(hs4.block g (Nat.lt_of_lt_of_le h2 hs3.size) h6).trans (hs3.block g h2 h5), hs3.out h5 h2, hs4.out h6 (Nat.lt_of_lt_of_le h2 hs3.size)⟩
 have HF : Hid (∀ w2, Below w1.heap.size w1 w2 -> ∀ w3 S3, DiskOK w3 t.pb (N + 1) (chgK t.K (erA o.nm o.b2 t.K) (appA o.nm o.b2 t.K)).1 S3 -> Sep w2.drew w3 t.S S3 -> ∀ w4 V4, RefOK w4 t.rb (chgK t.K (erA o.nm o.b2 t.K) (appA o.nm o.b2 t.K)).1 V4 -> Sep w3 w4 t.V V4 -> ∀ g, w1.heap.size <= g -> g < w2.heap.size -> ∀ w5, Below w4.heap.size w4 w5 -> ∀ w6, Ov w5 w6 (fun q => q = g) -> ∃ T' U', PlayIs w0 w6 y (N + 64) T' U') := fun w2 hb w3 S3 hd3 hs3 w4 V4 hd4 hs4 g h1 h2 w5 hb5 w6 hov => by
  have hP := ((h.pair hj ht ((uh B1).trans (hb.mono (uh B1).size)).drew hd3 hs3 hd4 hs4 (hT.i.append o.nm o.b2) (by omega)).below hb5)
  have hL := uh HLIV w2 hb g h1 h2 w3 S3 hs3 w4 V4 hs4
  refine ⟨_, U, (hP.apart hov.sep (fun q hq => ?_)).mono (by omega)⟩
  have hq : q = g := hq
  subst hq
  have hbl := h.bl.size
  refine ⟨by omega, by omega, fun e => by have := (h.kb.ul q e).2.2; omega, upd_fp (P := fun t => ¬ t.fp q) (fun i hi t' ht' e => by have := (h.tw i hi t' ht').lt e; omega) (fun e => e.elim hL.2.1 hL.2.2)⟩
 have HBY : Hid (∀ W, Below w0.heap.size w0 W -> BytesIn W (.slice o.pu o.b2.length o.cu) o.b2) := fun W hb => (ho.below hb).by'
 have HB0 := hide hB0
 have HTL := hide (h.tl j hj t ht)
 have HBV := hide hboxV
 have hbl := ho.bl
 obtain ⟨X, hX⟩ : ∃ X : Int, X = (chgK t.K (erA o.nm o.b2 t.K) (appA o.nm o.b2 t.K)).2 := ⟨_, rfl⟩
 rw [<- hX] at HA HR
 have hjI : (0 : Int) <= (j : Int) := by omega
 have hjI3 : (j : Int) < 3 := by omega
 unfold OpV.val
 rw [hd, hk]
 clear h hT hN9 hf hf0 hl hs hp1 hd1 hX ht hd hk ho hbox hboxV hrowS hB0
 go_enter Tryz.func15, Tryz.ntmps15
 go_wp2_with fail
 rw [<- hw1]
 clear hw1
 refine wp_region_last (n := 8) (S := fun W => W.cell? ⟨w.heap.size, 0, none⟩ = some (.int .i64 (j : Int)) /\ W.cell? ⟨y, j, none⟩ = some (.pointer (some ⟨t.pb, 0, none⟩))) (by kernel_rfl) (by first | (exact ⟨e0, p1⟩)) (fun hHeld => ?_)
 refine tkW 0 ?_; refine tkW 1 ?_; refine tkN 2 ?_; refine tkW 3 ?_; refine tkW 4 ?_; refine tkW 5 ?_; refine tkN 6 ?_; refine tkW 7 ?_
 refine wpAnyL_done (by kernel_rfl) ?_
 go_wp2_with fail
 refine wp_region_last (n := 8) (S := fun W => W.cell? ⟨w.heap.size, 0, none⟩ = some (.int .i64 (j : Int)) /\ W.cell? ⟨y, 3 + j, none⟩ = some (.pointer (some ⟨t.rb, 0, none⟩))) (by kernel_rfl) (by first | (exact ⟨e0, d1⟩)) (fun hHeld => ?_)
 refine tkW 0 ?_; refine tkW 1 ?_; refine tkN 2 ?_; refine tkW 3 ?_; refine tkW 4 ?_; refine tkW 5 ?_; refine tkN 6 ?_; refine tkW 7 ?_
 refine wpAnyL_done (by kernel_rfl) ?_
 go_wp2_with fail
 refine (uh HRM).mono ?_
 rintro r w2 ⟨g, c, rfl, hown2, hb2⟩
 have B2 : Hid (Below w1.heap.size w1 w2) := ⟨hb2.os, hb2.tape, hb2.output, hb2.size, hb2.block⟩
 have O2 : Hid (w2.ownsRow w1.heap.size 5 1 (.slice (some ⟨g, 0, none⟩) (o.b2.length + 64) c) (o.b2.length + 64) (Kp.bcells (Kp.cat (fun j => (o.b2[j]?.getD 0).toNat) o.b2.length (Kp.patN 700000)) (o.b2.length + 64))) := hown2
 have hgl := hown2.lt g rfl
 have hcap : o.b2.length + 64 <= c := by
  rcases hown2.2 with ⟨h1, _⟩ | ⟨g1, cap1, cur, h1, _, _, h2, _⟩
  ·cases h1
  ·injection h1 with _ _ h3
   omega
 have m2 := keep1 (uh B2) (by show w.heap.size < w1.heap.size; omega) b2
 have m4 := keep1 (uh B2) (by show w.heap.size < w1.heap.size; omega) b4
 have hI1 : (0 : Int) <= (o.b2.length : Int) := by omega
 have hI2 : (o.b2.length : Int) <= (c : Int) := by omega
 have hI3 : o.b2.length <= c := by omega
 have hg1 : w1.heap.size <= g := hgl.1
 have hg2 : g < w2.heap.size := hgl.2
 clear hown2 hb2 hgl HRM b2 b4 p1 d1 e0 e1
 go_wp2_with fail
 refine wp_region_last (n := 10) (S := fun W => W.cell? ⟨w.heap.size, 2, none⟩ = some (.string o.nm) /\ W.cell? ⟨w.heap.size, 4, none⟩ = some (.slice o.pu o.b2.length o.cu)) (by kernel_rfl) (by first | (exact ⟨m2, m4⟩)) (fun hHeld => ?_)
 refine tkW 0 ?_; refine tkW 1 ?_; refine tkN 2 ?_; refine tkW 3 ?_; refine tkW 4 ?_; refine tkN 5 ?_; refine tkW 6 ?_; refine tkW 7 ?_
 refine wpAnyL_one (i := 8) (by kernel_rfl) rfl (fun KK hK => ?_)
 go_simp
 go_at_call 40
 refine (uh HA w2 (uh B2) g c (uh O2)).mono ?_
 rintro r w3 ⟨rfl, S3, hd3, hs3⟩
 have D3 := hide hd3
 have Q3 := hide hs3
 have n2 := (World.cell?_of_block (a := ⟨w.heap.size, 2, none⟩) (uh HBX w2 (uh B2) w3 S3 hs3)).trans m2
 have n4 := (World.cell?_of_block (a := ⟨w.heap.size, 4, none⟩) (uh HBX w2 (uh B2) w3 S3 hs3)).trans m4
 clear hd3 hs3
 refine hK.out _ _ (by first | (exact ⟨n2, n4⟩)) (fun hHeld => ?_)
 clear hK KK
 refine tkW 9 ?_
 refine wpAnyL_done (by kernel_rfl) ?_
 go_wp2_with fail
 refine (uh HR w2 (uh B2) w3 S3 (uh Q3)).mono ?_
 rintro r w4 ⟨rfl, V4, hd4, hs4⟩
 have D4 := hide hd4
 have Q4 := hide hs4
 have hL4 := uh HLIV w2 (uh B2) g hg1 hg2 w3 S3 (uh Q3) w4 V4 hs4
 have B4 : Hid (Below w0.heap.size w0 w4) := ((uh HB0 w2.drew ((uh B1).trans ((uh B2).mono (uh B1).size)).drew).trans ((uh Q3).below (fun q hq => uh HTL q (.inl hq)) (uh HB0 w2.drew ((uh B1).trans ((uh B2).mono (uh B1).size)).drew).size)).trans (hs4.below (fun q hq => uh HTL q (.inr hq)) (Nat.le_trans (uh HB0 w2.drew ((uh B1).trans ((uh B2).mono (uh B1).size)).drew).size (uh Q3).size))
 have O4 : Hid (w4.ownsRow w1.heap.size 5 1 (.slice (some ⟨g, 0, none⟩) (o.b2.length + 64) c) (o.b2.length + 64) (Kp.bcells (Kp.cat (fun j => (o.b2[j]?.getD 0).toNat) o.b2.length (Kp.patN 700000)) (o.b2.length + 64))) := row_far (uh O2) (fun q hq => by injection hq with hq; have hq : g = q := hq; rw [<- hq]; exact hL4.1)
 have hz4 : g < w4.heap.size := Nat.lt_of_lt_of_le hg2 (Nat.le_trans (uh Q3).size hs4.size)
 have k4 : w4.cell? ⟨w.heap.size, 4, none⟩ = some (.slice o.pu o.b2.length o.cu) := (World.cell?_of_block (hs4.block w.heap.size (Nat.lt_of_lt_of_le (by have := (uh B2).size; show w.heap.size < w2.heap.size; omega) (uh Q3).size) (uh HBV))).trans n4
 have hkp := hide (Kp.kept_in (uh HBY w4 (uh B4)) hbl g c (fun k hk => by rw [(uh O4).cellAt k (by omega)]; exact Kp.bcells_get _ _ _ hk))
 have hz2 : w1.heap.size <= w2.heap.size := (uh B2).size
 clear hd4 hs4 hL4 n2 n4 m2 m4
 go_wp2_with fail
 refine (num_any _ _).mono ?_
 rintro r wz ⟨rfl, hw⟩
 rw [hw]
 clear hw wz
 go_wp2_with fail
 refine (num_any _ _).mono ?_
 rintro r wz ⟨rfl, hw⟩
 rw [hw]
 clear hw wz
 go_wp2_with fail
 refine (uh hkp).mono ?_
 rintro r w5 ⟨rfl, m, hw5⟩
 have B5 : Hid (Below w4.heap.size w4 w5) := by rw [hw5]; exact ⟨rfl, rfl, rfl, Nat.le_refl _, fun _ _ => rfl⟩
 have hz5 : w4.heap.size = w5.heap.size := by rw [hw5]; rfl
 have hgb : w5.heap[g]? = w4.heap[g]? := by rw [hw5]; rfl
 have hov := hide (fun (bo : Obj) (hbo : bo = .cells #[.slice (some ⟨g, 0, none⟩) (o.b2.length + 64) c] 55) => over_ok (w := w5.alloc bo) (fun q => q = g) (some ⟨w5.heap.size, 0, none⟩) 1 1 w5.heap.size (fun _ => g) (fun _ => o.b2.length + 64) (fun _ => c) (by omega) (fun _ => rfl) (by omega) (fun i hi => ⟨by have hi0 : i = 0 := (by omega); subst hi0; rw [hbo]; simp, rfl, (by have hl := Live.of_own (uh O4); rw [Nat.mul_one] at hl; exact fun k hk => ⟨by have e1 := (hl k hk).1; rw [<- World.cell?_of_block (w := w4) (w' := w5.alloc bo) ((Below.heap_alloc _ _ _ (show g < w5.heap.size by omega)).trans hgb)] at e1; exact e1, by have e1 := (hl k hk).2; rw [<- World.frozen?_of_block (w := w4) (w' := w5.alloc bo) ((Below.heap_alloc _ _ _ (show g < w5.heap.size by omega)).trans hgb)] at e1; exact e1⟩), by omega⟩) none 0 0 0 (by omega) (fun h => by omega) (fun k hk => by omega))
 clear hw5 hkp k4
 go_wp2_with fail
 refine (uh hov _ rfl).mono ?_
 rintro r w6 ⟨rfl, hO⟩
 have HO := hide hO
 clear hO
 go_wp2_with fail
 go_ret
 exact ⟨rfl, uh HF w2 (uh B2) w3 S3 (uh D3) (uh Q3) w4 V4 (uh D4) (uh Q4) g hg1 hg2 _ (bal (uh B5) _) w6 (uh HO)⟩
end Go.Proofs.YtpeohbkigkfcgabGreatDoor
