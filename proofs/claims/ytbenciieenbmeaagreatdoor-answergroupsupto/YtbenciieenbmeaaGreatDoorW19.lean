import Derived.Test.YtbenciieenbmeaaGreatDoorW18
import Derived.Laws.Tables
import Derived.Great.BuildSlice
/- answer: a scan on its way; groupOf 49. -/
namespace Go.Proofs.YtbenciieenbmeaaGreatDoor
open Go Go.Shelf Go.ChangeShapes Go.WideShapes Go.ChangeAt Go.RowKit Go.Maps
set_option linter.unusedVariables false
set_option maxRecDepth 100000
set_option maxHeartbeats 4000000
theorem built119 (c0 c1 c2 c3 c4 c5 c6 c7 c8 c9 c10 c11 c12 c13 : Cl) (p : Option Addr) (n c : Nat) : Tryz.prog.built 119 [(0, kV [c0, c1, c2, c3, c4, c5, c6, c7, c8, c9, c10, c11, c12, c13]), (1, Value.slice p n c)] = some (kcs [c0, c1, c2, c3, c4, c5, c6, c7, c8, c9, c10, c11, c12, c13] ++ [Value.slice p n c]).toArray := by
  kernel_rfl
abbrev zU : Value := .agg ((kcs noK).toArray.push (.slice none 0 0))
theorem fill110 (c0 c1 c2 c3 c4 c5 c6 c7 c8 c9 c10 c11 c12 c13 : Cl) (p : Option Addr) (n c : Nat) : Instr.fill (fun i => some (i * 43, 43)) ((Array.range (1 * 43)).map (zU.cells[· % zU.cells.size]!)) [(0, .agg (kcs [c0, c1, c2, c3, c4, c5, c6, c7, c8, c9, c10, c11, c12, c13] ++ [Value.slice p n c]).toArray)] = some (kcs [c0, c1, c2, c3, c4, c5, c6, c7, c8, c9, c10, c11, c12, c13] ++ [Value.slice p n c]).toArray := by
  kernel_rfl
theorem len14 {k : List Cl} (h : k.length = 14) : ∃ c0 c1 c2 c3 c4 c5 c6 c7 c8 c9 c10 c11 c12 c13, k = [c0, c1, c2, c3, c4, c5, c6, c7, c8, c9, c10, c11, c12, c13] := by
  match k, h with
  | [c0, c1, c2, c3, c4, c5, c6, c7, c8, c9, c10, c11, c12, c13], _ => exact ⟨c0, c1, c2, c3, c4, c5, c6, c7, c8, c9, c10, c11, c12, c13, rfl⟩
theorem run_bld {k : List Cl} (h : k.length = 14) (p : Option Addr) (n c : Nat) (w : World) : (Instr.build 119 #[(0, kV k), (1, .slice p n c)]).run Tryz.prog w = .ok (.agg (kcs k ++ [Value.slice p n c]).toArray) w := by
  obtain ⟨c0, c1, c2, c3, c4, c5, c6, c7, c8, c9, c10, c11, c12, c13, rfl⟩ := len14 h
  exact run_build w 119 _ _ (built119 c0 c1 c2 c3 c4 c5 c6 c7 c8 c9 c10 c11 c12 c13 p n c)
theorem run_bls {k : List Cl} (h : k.length = 14) (p : Option Addr) (n c : Nat) (w : World) : (Instr.buildSlice 110 1 #[(0, .agg (kcs k ++ [Value.slice p n c]).toArray)]).run Tryz.prog w = .ok (.slice (some ⟨w.heap.size, 0, none⟩) 1 1) (w.alloc (.cells (kcs k ++ [Value.slice p n c]).toArray 119)) := by
  obtain ⟨c0, c1, c2, c3, c4, c5, c6, c7, c8, c9, c10, c11, c12, c13, rfl⟩ := len14 h
  obtain ⟨i, h1, h2, h3, h4⟩ := info_parts (e := 119) (z := zU) (size := 43) (bytes := 472) (by kernel_rfl)
  exact run_buildSlice w 110 119 1 _ _ i zU Tryz.underlying110 h1 h2 (by rw [h3]; decide) (by rw [h3]; decide) (by rw [h3]; exact fill110 c0 c1 c2 c3 c4 c5 c6 c7 c8 c9 c10 c11 c12 c13 p n c)
/-- what is made of noughts -/
theorem made_range (w : World) (z : Array Value) (n j : Nat) (e : TypeId) (hz : 0 < z.size) (hj : j < n) : (w.alloc (.cells (madeCells z (n * z.size)) e)).rangeAt w.heap.size (j * z.size) z.toList := fun q u hu => by
  have hq : q < z.size := by have := (List.getElem?_eq_some_iff.1 hu).1; simpa using this
  have hlt : j * z.size + q < n * z.size := by
    have : (j + 1) * z.size ≤ n * z.size := Nat.mul_le_mul_right _ hj
    rw [Nat.add_mul, Nat.one_mul] at this
    omega
  rw [World.cell?_alloc_mark]
  unfold madeCells
  rw [Array.getElem?_map, Array.getElem?_range, if_pos hlt]
  have hm : (j * z.size + q) % z.size = q := by rw [Nat.mul_add_mod_self_right, Nat.mod_eq_of_lt hq]
  simp only [Option.map_some, hm]
  rw [← hu]
  simp [hq]
theorem run_mk (w : World) (t e : TypeId) {z : Value} {s b : Nat} (ht : Tryz.prog.underlying t = some (.slice e)) (hi : (Tryz.prog.info? e).map (fun i => (i.zero, i.size, i.bytes)) = some (some z, s, b)) (n : Nat) (hb : b * n ≤ 281474976710656) (hn : n ≤ 70000000000000) :
    (Instr.makeSlice t (.int .i64 (n : Int)) (.int .i64 (n : Int))).run Tryz.prog w = .ok (.slice (some ⟨w.heap.size, 0, none⟩) n n) (w.alloc (.cells (madeCells z.cells (n * s)) e)) := by
  obtain ⟨i, h1, h2, h3, h4⟩ := info_parts hi
  have hb' : (i.bytes : Int) * (n : Int) ≤ 281474976710656 := by
    have h : ((i.bytes * n : Nat) : Int) ≤ 281474976710656 := by rw [h4]; omega
    rwa [Int.natCast_mul] at h
  have := run_make (P := Tryz.prog) w t e i z ht h1 h2 .i64 .i64 n n (by omega) (by omega) hb' (by omega)
  simp only [Int.toNat_natCast] at this
  rw [this, h3]
def zT : Value := .agg #[.int .u64 0, .int .u64 0, .int .i64 0, .int .i64 0, .string ⟨#[]⟩]
theorem info167 : (Tryz.prog.info? 167).map (fun i => (i.zero, i.size, i.bytes)) = some (some zT, 5, 48) := by kernel_rfl
theorem new_tls (w : World) (n : Nat) : TLs (w.alloc (.cells (madeCells zT.cells (n * 5)) 167)) w.heap.size (List.replicate n (0, .no)) := by
  refine ⟨madeCells zT.cells (n * 5), heap_new _ _, by rw [size_madeCells, List.length_replicate], fun j hj => ?_⟩
  rw [List.length_replicate] at hj
  rw [List.getElem_replicate]
  exact made_range w zT.cells n j 167 (by decide) hj
/-- a scan on its way: its variable at d, the nodes' values at g, the map at b -/
structure Sc (B : Nat) (W : World) (d g b : Nat) (fx : List Value) (nN cv nS : Nat) (V : List Cl) (vG : Value) (gs : List Gr) : Prop where
  fl : fx.length = 9
  blk : Bk W d 112 (fx ++ [.slice (some ⟨g, 0, none⟩) nN cv, vG, .map (some b)])
  vals : VBk W g V
  vn : V.length = nN
  row : W.ownsRow B kU.e kU.s vG gs.length (kU.flat gs)
  mp : MI yK W b gs.length (onF (gs.map Gr.key))
  tal : ∀ x ∈ gs, TLs W x.t x.tl
  tn : ∀ x ∈ gs, x.tl.length = nS
  nd : (gs.map Gr.t).Nodup
  kn : (gs.map Gr.key).Nodup
  ok : ∀ x ∈ gs, Kok x.key
  lo : B ≤ d ∧ B ≤ g ∧ B ≤ b ∧ ∀ x ∈ gs, B ≤ x.t
theorem row_at {α : Type} {K : Kd α} {W : World} {B g n : Nat} {v : Value} {xs : List Value} (h : W.ownsRow B K.e K.s v n xs) (hg : v.ownBlock = some g) : ∃ cur, W.heap[g]? = some (.cells cur K.e (0, 0)) := by
  rcases h.2 with ⟨e, h2⟩ | ⟨g', cap, cur, e, hB, hh, h3⟩
  · rw [e] at hg; cases hg
  · rw [e] at hg
    have e2 : g' = g := Option.some.inj hg
    subst e2
    exact ⟨cur, hh⟩
theorem nodup_inj {α : Type} {l : List α} (h : l.Nodup) {i j : Nat} (hi : i < l.length) (hj : j < l.length) (e : l[i] = l[j]) : i = j := by
  have hp := List.pairwise_iff_getElem.1 h
  rcases Nat.lt_trichotomy i j with h1 | h1 | h1
  · exact absurd e (hp i j hi hj h1)
  · exact h1
  · exact absurd e.symm (hp j i hj hi h1)
theorem ne_type {W : World} {x y : Nat} {cs cs' : Array Value} {t t' : TypeId} {f f' : Nat × Nat} (h1 : W.heap[x]? = some (.cells cs t f)) (h2 : W.heap[y]? = some (.cells cs' t' f')) (hne : t ≠ t') : x ≠ y := fun e => by
  subst e
  rw [h1] at h2
  injection h2 with h2
  injection h2 with _ h2
  exact hne h2
theorem ne_cells {W : World} {x y : Nat} {cs : Array Value} {t : TypeId} {f : Nat × Nat} {es : Array MapEntry} {c : Nat} (h1 : W.heap[x]? = some (.cells cs t f)) (h2 : W.heap[y]? = some (.map es c)) : x ≠ y := fun e => by
  subst e
  rw [h1] at h2
  injection h2 with h2
  cases h2
section
variable {B : Nat} {W W' : World} {d g b : Nat} {fx : List Value} {nN cv nS : Nat} {V : List Cl} {vG : Value} {gs : List Gr}
/-- the blocks of a scan are apart -/
structure ScNe (W : World) (d g b : Nat) (vG : Value) (gs : List Gr) : Prop where
  dg : d ≠ g
  db : d ≠ b
  gb : g ≠ b
  dr : vG.ownBlock ≠ some d
  gr : vG.ownBlock ≠ some g
  br : vG.ownBlock ≠ some b
  td : ∀ x ∈ gs, x.t ≠ d
  tg : ∀ x ∈ gs, x.t ≠ g
  tb : ∀ x ∈ gs, x.t ≠ b
  tr : ∀ x ∈ gs, vG.ownBlock ≠ some x.t
theorem Sc.ne (h : Sc B W d g b fx nN cv nS V vG gs) : ScNe W d g b vG gs := by
  obtain ⟨cg, hg, _⟩ := h.vals.blk
  obtain ⟨es, ck, hb⟩ := h.mp.isMap
  have hd : W.heap[d]? = some _ := h.blk
  have hr : ∀ q, vG.ownBlock = some q → ∃ cur, W.heap[q]? = some (.cells cur 119 (0, 0)) := fun q e => row_at h.row e
  have ht : ∀ x ∈ gs, ∃ cs, W.heap[x.t]? = some (.cells cs 167 (0, 0)) := fun x hx => by
    obtain ⟨cs, h1, _⟩ := h.tal x hx
    exact ⟨cs, h1⟩
  refine ⟨ne_type hd hg (by decide), ne_cells hd hb, ne_cells hg hb, fun e => ?_, fun e => ?_, fun e => ?_, fun x hx => ?_, fun x hx => ?_, fun x hx => ?_, fun x hx e => ?_⟩
  · obtain ⟨cur, hc⟩ := hr _ e; exact ne_type hc hd (by decide) rfl
  · obtain ⟨cur, hc⟩ := hr _ e; exact ne_type hc hg (by decide) rfl
  · obtain ⟨cur, hc⟩ := hr _ e; exact ne_cells hc hb rfl
  · obtain ⟨cs, hc⟩ := ht x hx; exact ne_type hc hd (by decide)
  · obtain ⟨cs, hc⟩ := ht x hx; exact ne_type hc hg (by decide)
  · obtain ⟨cs, hc⟩ := ht x hx; exact ne_cells hc hb
  · obtain ⟨cur, hc⟩ := hr _ e; obtain ⟨cs, hc2⟩ := ht x hx; exact ne_type hc hc2 (by decide) rfl
theorem Sc.below (h : Sc B W d g b fx nN cv nS V vG gs) (hb : Below W.heap.size W W') : Sc B W' d g b fx nN cv nS V vG gs where
  fl := h.fl
  blk := h.blk.same (hb.block _ h.blk.lt)
  vals := h.vals.same hb.size (hb.block _ h.vals.v.lt)
  vn := h.vn
  row := row_keep h.row (fun q hq => hb.block q (row_block h.row hq).2.1)
  mp := h.mp.below hb
  tal := fun x hx => (h.tal x hx).same (hb.block _ (h.tal x hx).lt)
  tn := h.tn
  nd := h.nd
  kn := h.kn
  ok := h.ok
  lo := h.lo
/-- the nodes' values written anew -/
theorem Sc.look (h : Sc B W d g b fx nN cv nS V vG gs) {V' : List Cl} (hF : Fr W W' (fun i => i = g)) (hV : VBk W' g V') (hn : V'.length = nN) : Sc B W' d g b fx nN cv nS V' vG gs where
  fl := h.fl
  blk := h.blk.same (hF.block _ h.blk.lt h.ne.dg)
  vals := hV
  vn := hn
  row := row_keep h.row (fun q hq => hF.block q (row_block h.row hq).2.1 (fun e => h.ne.gr (by rw [hq, e])))
  mp := h.mp.same (hF.block _ h.mp.lt (fun e => h.ne.gb e.symm))
  tal := fun x hx => (h.tal x hx).same (hF.block _ (h.tal x hx).lt (h.ne.tg x hx))
  tn := h.tn
  nd := h.nd
  kn := h.kn
  ok := h.ok
  lo := h.lo
theorem flat_same {gs gs' : List Gr} (hk : gs'.map Gr.key = gs.map Gr.key) (ht : gs'.map Gr.t = gs.map Gr.t) (hl : gs'.map (fun x => x.tl.length) = gs.map (fun x => x.tl.length)) : kU.flat gs' = kU.flat gs := by
  induction gs generalizing gs' with
  | nil => cases gs' with
    | nil => rfl
    | cons x l => cases hk
  | cons y gs ih => cases gs' with
    | nil => cases hk
    | cons x l =>
      simp only [List.map_cons, List.cons.injEq] at hk ht hl
      have e : kU.flat (x :: l) = x.vals ++ kU.flat l := rfl
      have e2 : kU.flat (y :: gs) = y.vals ++ kU.flat gs := rfl
      rw [e, e2, ih hk.2 ht.2 hl.2]
      unfold Gr.vals
      rw [hk.1, ht.1, hl.1]
/-- one group's tallies told -/
theorem Sc.told (h : Sc B W d g b fx nN cv nS V vG gs) (i : Nat) (hi : i < gs.length) (tl : List (Int × Cl)) (hl : tl.length = nS) (hF : Fr W W' (fun j => j = gs[i].t)) (hT : TLs W' gs[i].t tl) : Sc B W' d g b fx nN cv nS V vG (gs.set i { gs[i] with tl := tl }) := by
  have hm : gs[i] ∈ gs := List.getElem_mem hi
  have ek : (gs.set i { gs[i] with tl := tl }).map Gr.key = gs.map Gr.key := by
    rw [List.map_set]
    show (gs.map Gr.key).set i gs[i].key = _
    rw [← List.getElem_map Gr.key (h := by simpa using hi), List.set_getElem_self]
  have et : (gs.set i { gs[i] with tl := tl }).map Gr.t = gs.map Gr.t := by
    rw [List.map_set]
    show (gs.map Gr.t).set i gs[i].t = _
    rw [← List.getElem_map Gr.t (h := by simpa using hi), List.set_getElem_self]
  have el : (gs.set i { gs[i] with tl := tl }).map (fun x => x.tl.length) = gs.map (fun x => x.tl.length) := by
    rw [List.map_set]
    show (gs.map (fun x => x.tl.length)).set i tl.length = _
    rw [hl, ← h.tn _ hm, ← List.getElem_map (fun x : Gr => x.tl.length) (h := by simpa using hi), List.set_getElem_self]
  have hmem : ∀ x ∈ gs.set i { gs[i] with tl := tl }, x = { gs[i] with tl := tl } ∨ ∃ j, ∃ hj : j < gs.length, j ≠ i ∧ x = gs[j] := fun x hx => by
    obtain ⟨j, hj, rfl⟩ := List.mem_iff_getElem.1 hx
    rw [List.length_set] at hj
    by_cases e : i = j
    · subst e; left; rw [List.getElem_set_self]
    · right; exact ⟨j, hj, fun h => e h.symm, by rw [List.getElem_set_ne e]⟩
  have hap : ∀ j (hj : j < gs.length), j ≠ i → gs[j].t ≠ gs[i].t := fun j hj hne e => by
    exact hne (nodup_inj h.nd (by simpa using hj) (by simpa using hi) (by simpa using e))
  exact {
    fl := h.fl
    blk := h.blk.same (hF.block _ h.blk.lt (fun e => h.ne.td _ hm e.symm))
    vals := h.vals.same hF.size (hF.block _ h.vals.v.lt (fun e => h.ne.tg _ hm e.symm))
    vn := h.vn
    row := by
      rw [List.length_set, flat_same ek et el]
      exact row_keep h.row (fun q hq => hF.block q (row_block h.row hq).2.1 (fun e => h.ne.tr _ hm (by rw [hq, e])))
    mp := by rw [List.length_set, ek]; exact h.mp.same (hF.block _ h.mp.lt (fun e => h.ne.tb _ hm e.symm))
    tal := fun x hx => by
      rcases hmem x hx with rfl | ⟨j, hj, hne, rfl⟩
      · exact hT
      · have hmj : gs[j] ∈ gs := List.getElem_mem hj
        exact (h.tal _ hmj).same (hF.block _ (h.tal _ hmj).lt (hap j hj hne))
    tn := fun x hx => by
      rcases hmem x hx with rfl | ⟨j, hj, hne, rfl⟩
      · exact hl
      · exact h.tn _ (List.getElem_mem hj)
    nd := by rw [et]; exact h.nd
    kn := by rw [ek]; exact h.kn
    ok := fun x hx => by
      rcases hmem x hx with rfl | ⟨j, hj, hne, rfl⟩
      · exact h.ok gs[i] hm
      · exact h.ok _ (List.getElem_mem hj)
    lo := ⟨h.lo.1, h.lo.2.1, h.lo.2.2.1, fun x hx => by
      rcases hmem x hx with rfl | ⟨j, hj, hne, rfl⟩
      · exact h.lo.2.2.2 gs[i] hm
      · exact h.lo.2.2.2 _ (List.getElem_mem hj)⟩ }
/-- where a group's tallies are told to lie -/
theorem Sc.place (h : Sc B W d g b fx nN cv nS V vG gs) (i : Nat) (hi : i < gs.length) : ∃ gb c, vG = .slice (some ⟨gb, 0, none⟩) gs.length c ∧ W.cell? ⟨gb, i * 43 + 42, none⟩ = some (.slice (some ⟨gs[i].t, 0, none⟩) nS nS) := by
  obtain ⟨p, c, e, h1, h2⟩ := row_slice h.row
  have hr := h.row
  rw [e] at hr
  obtain ⟨gb, off, ep, hlt, hrr⟩ := (own_lies kU_ok rfl hr).2 i hi
  have ho := (h2 _ ep).1
  have ho : off = 0 := ho
  subst ho
  refine ⟨gb, c, by rw [e, ep], ?_⟩
  have hm : gs[i] ∈ gs := List.getElem_mem hi
  have := hrr 42 (.slice (some ⟨gs[i].t, 0, none⟩) nS nS) (by
    show (kcs (p14 gs[i].key) ++ [Value.slice (some ⟨gs[i].t, 0, none⟩) gs[i].tl.length gs[i].tl.length])[42]? = _
    rw [List.getElem?_append_right (by rw [kcs_len, p14_len]; decide), kcs_len, p14_len, h.tn _ hm]
    rfl)
  rw [Nat.zero_add] at this
  exact this
end
/-- the groups with a key's among them -/
def grG (gs : List Gr) (k : List Cl) (t nS : Nat) : List Gr := if k ∈ gs.map Gr.key then gs else gs ++ [⟨k, t, List.replicate nS (0, .no)⟩]
section
variable {B : Nat} {W W' : World} {d g b : Nat} {fx : List Value} {nN cv nS : Nat} {V : List Cl} {vG : Value} {gs : List Gr}
/-- a group more, step by step: the map, the tallies, the list, the variable -/
theorem Sc.more (h : Sc B W d g b fx nN cv nS V vG gs) (hB : B ≤ W.heap.size) (hg : gs.length ≤ 4194304) (hS : nS ≤ 4194304) {k : List Cl} (hk : Kok k) (hnew : k ∉ gs.map Gr.key) :
    ∃ w1, (Instr.mapUpdate 109 (.map (some b)) (kV k) (.int .i64 ((gs.length : Nat) : Int))).run Tryz.prog W = .ok () w1 ∧ w1.heap.size = W.heap.size ∧ (∀ i, i < W.heap.size → i ≠ b → w1.heap[i]? = W.heap[i]?) ∧ w1.cell? ⟨d, 10, none⟩ = some vG ∧
      ∀ m w2, w2 = ((w1.drewN m).alloc (.cells (madeCells zT.cells (nS * 5)) 167)) → (Instr.makeSlice 114 (.int .i64 (nS : Int)) (.int .i64 (nS : Int))).run Tryz.prog (w1.drewN m) = .ok (.slice (some ⟨w1.heap.size, 0, none⟩) nS nS) w2 ∧
        ∃ p c w4 w5, (Builtin.append_ #[110, 110] 110 #[vG, .slice (some ⟨w1.heap.size + 1, 0, none⟩) 1 1]).run Tryz.prog (w2.alloc (.cells (kcs k ++ [Value.slice (some ⟨w1.heap.size, 0, none⟩) nS nS]).toArray 119)) = .ok (.slice p (gs.length + 1) c) w4 ∧ w4.cell? ⟨d, 10, none⟩ = some vG ∧ w4.frozen? ⟨d, 10, none⟩ = false ∧ (∀ i, i < W.heap.size → i ≠ b → vG.ownBlock ≠ some i → w4.heap[i]? = W.heap[i]?) ∧ w5 = w4.setCell ⟨d, 10, none⟩ (.slice p (gs.length + 1) c) ∧ Sc B w5 d g b fx nN cv nS V (.slice p (gs.length + 1) c) (gs ++ [⟨k, w1.heap.size, List.replicate nS (0, .no)⟩]) ∧ Below B W w5 := by
  have hne := h.ne
  obtain ⟨w1, u1, u2, u3, u4⟩ := h.mp.put yK_ok hk gs.length (by omega) (by omega) (onF (gs.map Gr.key ++ [k])) (fun y hy => (onF_snoc hnew).2 y hy) (by
    have := (onF_snoc hnew).1
    rwa [List.length_map] at this)
  have u1 : (Instr.mapUpdate 109 (.map (some b)) (kV k) (.int .i64 ((gs.length : Nat) : Int))).run Tryz.prog W = .ok () w1 := u1
  have hst : ∀ i, i < W.heap.size → i ≠ b → w1.heap[i]? = W.heap[i]? := fun i hi hne' => u3.block i hi (fun e => hne' (Option.some.inj e))
  have c10 : ∀ X : World, X.heap[d]? = W.heap[d]? → X.cell? ⟨d, 10, none⟩ = some vG := fun X hX => by
    rw [(h.blk.same hX).cell, List.getElem?_append_right (by rw [h.fl]; decide), h.fl]
    rfl
  have hdl := h.blk.lt
  have e1d : w1.heap[d]? = W.heap[d]? := hst d hdl hne.db
  refine ⟨w1, u1, u4, hst, c10 w1 e1d, fun m w2 hw2 => ⟨?_, ?_⟩⟩
  · rw [hw2]
    exact run_mk (w1.drewN m) 114 167 (z := zT) (s := 5) (b := 48) Tryz.underlying114 info167 nS (by omega) (by omega)
  · obtain ⟨A, hA⟩ : ∃ A, A = w1.drewN m := ⟨_, rfl⟩
    have hAh : ∀ i : Nat, A.heap[i]? = w1.heap[i]? := fun i => by rw [hA]; rfl
    have hAs : A.heap.size = w1.heap.size := by rw [hA]; rfl
    rw [← hA] at hw2
    have hs2 : w2.heap.size = w1.heap.size + 1 := by rw [hw2]; simp [hAs]
    have h2i : ∀ i : Nat, i < W.heap.size → i ≠ b → w2.heap[i]? = W.heap[i]? := fun i hi hb => by
      rw [hw2, Below.heap_alloc _ _ _ (by omega), hAh]; exact hst i hi hb
    have hrow2 : w2.ownsRow B kU.e kU.s vG gs.length (kU.flat gs) := row_keep h.row (fun q hq => h2i q (row_block h.row hq).2.1 (fun e => hne.br (by rw [hq, e])))
    obtain ⟨p, c, w4, r4, o4, b4, s4, l4, z4⟩ := app1 kU_ok hrow2 (by omega) ⟨k, w1.heap.size, List.replicate nS (0, .no)⟩ (kcs k ++ [Value.slice (some ⟨w1.heap.size, 0, none⟩) nS nS]).toArray (by
      show _ = kcs (p14 k) ++ [Value.slice (some ⟨w1.heap.size, 0, none⟩) (List.replicate nS ((0 : Int), Cl.no)).length (List.replicate nS ((0 : Int), Cl.no)).length]
      rw [p14_id hk.1, List.length_replicate]) 110 (by omega)
    rw [hs2] at r4
    have h4i : ∀ i : Nat, i < w2.heap.size → vG.ownBlock ≠ some i → w4.heap[i]? = w2.heap[i]? := fun i hi hv => s4 i hi hv
    have e4d : w4.heap[d]? = W.heap[d]? := (h4i d (by omega) hne.dr).trans (h2i d hdl hne.db)
    obtain ⟨w5, hw5⟩ : ∃ w5, w5 = w4.setCell ⟨d, 10, none⟩ (.slice p (gs.length + 1) c) := ⟨_, rfl⟩
    have h5i : ∀ i : Nat, i ≠ d → w5.heap[i]? = w4.heap[i]? := fun i hi => by rw [hw5]; exact Below.heap_setCell _ _ _ _ hi
    have b4d : Bk w4 d 112 (fx ++ [.slice (some ⟨g, 0, none⟩) nN cv, vG, .map (some b)]) := h.blk.same e4d
    have hmp4 : MI yK w4 b (gs.length + 1) (onF (gs.map Gr.key ++ [k])) := by
      refine u2.same ?_
      have hb1 : b < w1.heap.size := u2.lt
      rw [h4i b (by omega) hne.br, hw2, Below.heap_alloc _ _ _ (by omega), hAh]
    have hT4 : TLs w4 w1.heap.size (List.replicate nS (0, .no)) := by
      have h0 := new_tls A nS
      rw [← hw2, hAs] at h0
      exact h0.same (h4i _ (by omega) (fun e => by have := (row_block hrow2 e).2.1; obtain ⟨cur, hc⟩ := row_at hrow2 e; obtain ⟨cs, hcs, _⟩ := h0; exact ne_type hc hcs (by decide) rfl))
    have htd : w1.heap.size ≠ d := by omega
    refine ⟨p, c, w4, w5, r4, c10 w4 e4d, by simp [World.frozen?, show w4.heap[d]? = some _ from b4d], fun i hi h1 h2 => (h4i i (by omega) h2).trans (h2i i hi h1), hw5, ?_, ?_⟩
    · have hmem : ∀ x ∈ gs ++ [⟨k, w1.heap.size, List.replicate nS (0, .no)⟩], x ∈ gs ∨ x = ⟨k, w1.heap.size, List.replicate nS (0, .no)⟩ := fun x hx => by
        rcases List.mem_append.1 hx with h | h
        · exact .inl h
        · exact .inr (List.mem_singleton.1 h)
      have hb5 : Bk w5 d 112 (fx ++ [.slice (some ⟨g, 0, none⟩) nN cv, .slice p (gs.length + 1) c, .map (some b)]) := by
        rw [hw5]
        unfold Bk at b4d ⊢
        rw [setC b4d]
        have : (fx ++ [.slice (some ⟨g, 0, none⟩) nN cv, vG, .map (some b)]).set 10 (.slice p (gs.length + 1) c) = fx ++ [.slice (some ⟨g, 0, none⟩) nN cv, .slice p (gs.length + 1) c, .map (some b)] := by
          rw [List.set_append_right _ _ (by rw [h.fl]; decide), h.fl]
          rfl
        rw [← this]
        simp
      exact {
        fl := h.fl
        blk := hb5
        vals := by
          refine h.vals.same (by have := b4.size; rw [hw5]; simp [World.setCell]; omega) ?_
          rw [h5i g (fun e => hne.dg e.symm), h4i g (by have := h.vals.v.lt; omega) hne.gr, h2i g h.vals.v.lt hne.gb]
        vn := h.vn
        row := by
          rw [List.length_append]
          refine row_keep o4 (fun q hq => h5i q (fun e => ?_))
          subst e
          obtain ⟨cur, hc⟩ := row_at o4 hq
          exact ne_type hc b4d (by decide) rfl
        mp := by
          rw [List.length_append, List.map_append]
          exact hmp4.same (h5i b (fun e => hne.db e.symm))
        tal := fun x hx => by
          rcases hmem x hx with h1 | rfl
          · refine (h.tal x h1).same ?_
            rw [h5i _ (hne.td x h1), h4i _ (by have := (h.tal x h1).lt; omega) (hne.tr x h1), h2i _ (h.tal x h1).lt (hne.tb x h1)]
          · exact hT4.same (h5i _ htd)
        tn := fun x hx => by
          rcases hmem x hx with h1 | rfl
          · exact h.tn x h1
          · exact List.length_replicate
        nd := by
          rw [List.map_append]
          refine List.nodup_append.2 ⟨h.nd, by simp, fun a ha c hc e => ?_⟩
          obtain ⟨x, hx, rfl⟩ := List.mem_map.1 ha
          have hc' : c = w1.heap.size := by simpa using hc
          have := (h.tal x hx).lt
          omega
        kn := by
          rw [List.map_append]
          refine List.nodup_append.2 ⟨h.kn, by simp, fun a ha c hc e => ?_⟩
          have hc' : c = k := by simpa using hc
          exact hnew (by rw [← hc', ← e]; exact ha)
        ok := fun x hx => by
          rcases hmem x hx with h1 | rfl
          · exact h.ok x h1
          · exact hk
        lo := ⟨h.lo.1, h.lo.2.1, h.lo.2.2.1, fun x hx => by
          rcases hmem x hx with h1 | rfl
          · exact h.lo.2.2.2 x h1
          · show B ≤ w1.heap.size; omega⟩ }
    · have g1 : Below B W w1 := ⟨u3.os, u3.tape, u3.output, u3.size, fun i hi => hst i (by omega) (fun e => by have := h.lo.2.2.1; omega)⟩
      have g2 : Below B W A := by rw [hA]; exact below_drewN g1 m
      have g3 : Below B W w2 := by rw [hw2]; exact g2.alloc (by omega) _
      have g5 : Below B W w4 := g3.trans b4
      rw [hw5]
      exact g5.setCell (p := ⟨d, 10, none⟩) h.lo.1 _
end
end Go.Proofs.YtbenciieenbmeaaGreatDoor
