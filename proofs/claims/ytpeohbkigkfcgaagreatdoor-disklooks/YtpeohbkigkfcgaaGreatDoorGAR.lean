import Derived.Test.YtpeohbkigkfcgaaGreatDoorGAN
set_option linter.unusedVariables false
set_option linter.unusedSimpArgs false
set_option maxRecDepth 100000
set_option maxHeartbeats 16000000
namespace Go.Proofs.YtpeohbkigkfcgaaGreatDoor
open Go Go.Shelf Go.ChangeShapes Go.WideShapes Go.ChangeAt Go.RowKit Go.Maps Go.Sort
theorem read_er {w : World} {d N n : Nat} {K : Dk} {S : Nat -> Prop} {mo : Option Nat} {es : List (Lit × DataW Value)} (h : DiskIs w d N K S mo n es) (s : ByteArray) (hs : s.size <= maxLen) (he : (sizeK s K).2 ≠ 0) (a m : Int) :
  Calls Tryz.prog 44 #[.pointer (some ⟨d, 0, none⟩), .string s, .int .i64 a, .int .i64 m] w fun e w' => e = .returned (.tuple #[.slice none 0 0, .int .i64 (sizeK s K).2]) /\ Below w.heap.size w w' := by
 have HK := hide (look_ok h s hs)
 obtain ⟨er, her⟩ : ∃ er, er = (sizeK s K).2 := ⟨_, rfl⟩
 rw [<- her] at he ⊢
 have HE := hide her
 clear h her
 go_enter Tryz.func44, Tryz.ntmps44
 go_wp2_with fail
 refine (uh HK).mono ?_
 rintro e w1 ⟨⟨p, m1, c, y, er', rfl, _, h2⟩, hb⟩
 rw [<- uh HE] at h2
 subst h2
 have HB := hide hb
 clear hb
 go_wp2_with fail
 go_ret2
 exact ⟨rfl, (uh HB).trans ((bal (Below.refl _ _) _).mono (uh HB).size)⟩
theorem read_bad {w : World} {d N n : Nat} {K : Dk} {S : Nat -> Prop} {mo : Option Nat} {es : List (Lit × DataW Value)} (h : DiskIs w d N K S mo n es) (s : ByteArray) (hs : s.size <= maxLen) (hdn : K.down = false) (hn : nameS s = true) {x : Fl} (hx : getF s.data.toList K.A = some x) (hxl : x.bs.length <= 1048576) (a m : Int) (ha : a <= 9223372036854775807) (hbad : a < 0 \/ m < 0 \/ (x.bs.length : Int) < a \/ (x.bs.length : Int) - a < m) :
  Calls Tryz.prog 44 #[.pointer (some ⟨d, 0, none⟩), .string s, .int .i64 a, .int .i64 m] w fun e w' => e = .returned (.tuple #[.slice none 0 0, .int .i64 1]) /\ Below w.heap.size w w' := by
 have HK := hide (look_hit h s hs hdn hn hx)
 obtain ⟨X, hX⟩ : ∃ X, X = x.bs.length := ⟨_, rfl⟩
 rw [<- hX] at hxl hbad HK
 clear h hx hX
 by_cases h1 : a < 0
 ·go_enter Tryz.func44, Tryz.ntmps44
  go_wp2_with fail
  refine (uh HK).mono ?_
  rintro e w1 ⟨⟨p, c, rfl, _⟩, hb⟩
  have HB := hide hb
  clear hb hbad
  go_wp2_with fail
  go_ret2
  exact ⟨rfl, (uh HB).trans ((bal (Below.refl _ _) _).mono (uh HB).size)⟩
 ·by_cases h2 : m < 0
  ·go_enter Tryz.func44, Tryz.ntmps44
   go_wp2_with fail
   refine (uh HK).mono ?_
   rintro e w1 ⟨⟨p, c, rfl, _⟩, hb⟩
   have HB := hide hb
   clear hb hbad
   go_wp2_with fail
   go_ret2
   exact ⟨rfl, (uh HB).trans ((bal (Below.refl _ _) _).mono (uh HB).size)⟩
  ·have h3 : (X : Int) - a < m := by omega
   have s0 : -9223372036854775808 <= (X : Int) - a := by omega
   have s1 : (X : Int) - a <= 9223372036854775807 := by omega
   clear hbad
   go_enter Tryz.func44, Tryz.ntmps44
   go_wp2_with fail
   refine (uh HK).mono ?_
   rintro e w1 ⟨⟨p, c, rfl, _⟩, hb⟩
   have HB := hide hb
   clear hb
   go_wp2_with fail
   go_ret2
   exact ⟨rfl, (uh HB).trans ((bal (Below.refl _ _) _).mono (uh HB).size)⟩
theorem read_in {w : World} {d N n : Nat} {K : Dk} {S : Nat -> Prop} {mo : Option Nat} {es : List (Lit × DataW Value)} (h : DiskIs w d N K S mo n es) (s : ByteArray) (hs : s.size <= maxLen) (hdn : K.down = false) (hn : nameS s = true) {x : Fl} (hx : getF s.data.toList K.A = some x) (hxl : x.bs.length <= 1048576) (A M : Nat) (hAM : A + M <= x.bs.length) :
  Calls Tryz.prog 44 #[.pointer (some ⟨d, 0, none⟩), .string s, .int .i64 (A : Int), .int .i64 (M : Int)] w fun e w' => (∃ p c, e = .returned (.tuple #[.slice p M c, .int .i64 0]) /\ w'.ownsRow w.heap.size 5 1 (.slice p M c) M (bcs ((x.bs.drop A).take M))) /\ Below w.heap.size w w' := by
 have HK := hide (look_hit h s hs hdn hn hx)
 obtain ⟨b2, hb2⟩ : ∃ b2, b2 = (x.bs.drop A).take M := ⟨_, rfl⟩
 rw [<- hb2]
 have HB2 := hide hb2
 clear h hx hb2
 go_enter Tryz.func44, Tryz.ntmps44
 go_wp2_with fail
 refine (uh HK).mono ?_
 rintro e w1 ⟨⟨p, c, rfl, hr⟩, hb⟩
 have hcap : x.bs.length <= c := by
  rcases hr.2 with ⟨h1, h2⟩ | ⟨_, _, _, h1, _, _, h3, _⟩
  ·omega
  ·injection h1 with _ _ h1c
   omega
 have hform : p = none /\ x.bs = [] /\ c = 0 \/ ∃ b, p = some ⟨b, 0, none⟩ := by
  rcases hr.2 with ⟨h1, h2⟩ | ⟨b, _, _, h1, _⟩
  ·injection h1 with h1 _ h1c
   exact .inl ⟨h1, List.eq_nil_of_length_eq_zero h2, h1c⟩
  ·injection h1 with h1 _ _
   exact .inr ⟨b, h1⟩
 have hlen : b2.length = M := by rw [uh HB2, List.length_take, List.length_drop]; omega
 have HLE := hide hlen
 have R1 := hide hr; have HB := hide hb
 obtain ⟨X, hX⟩ : ∃ X, X = x.bs.length := ⟨_, rfl⟩
 rw [<- hX] at hxl hAM hcap ⊢
 have HX := hide hX
 clear hr hb hlen hX HK
 have j1 : ¬ ((A : Int) < 0) := by omega
 have j2 : ¬ ((M : Int) < 0) := by omega
 have j4 : ¬ ((X : Int) - (A : Int) < (M : Int)) := by omega
 have s0 : -9223372036854775808 <= (X : Int) - (A : Int) := by omega
 have s1 : (X : Int) - (A : Int) <= 9223372036854775807 := by omega
 have s2 : (A : Int) + (M : Int) <= 9223372036854775807 := by omega
 have k1 : (0 : Int) <= (A : Int) := by omega
 have k2 : (A : Int) <= (A : Int) + (M : Int) := by omega
 have k3 : (A : Int) + (M : Int) <= (c : Int) := by omega
 rcases hform with ⟨rfl, hbs, rfl⟩ | ⟨b, rfl⟩
 ·have hX0 : X = 0 := by rw [uh HX, hbs]; rfl
  obtain rfl : A = 0 := by omega
  obtain rfl : M = 0 := by omega
  subst hX0
  obtain rfl : b2 = [] := by rw [uh HB2]; simp
  have HC := hide (clone_ok (w := w1.alloc (.cells #[.slice none 0 0, .int .i64 (x.sy : Int)] 88)) none 0 [] (.inl ⟨rfl, rfl⟩) (by simp))
  clear hbs HLE R1 HX HB2
  go_wp2_with fail
  refine (uh HC).mono ?_
  rintro e w3 ⟨⟨p3, c3, rfl, hr3⟩, hb3⟩
  have R3 := hide hr3; have HB3 := hide hb3
  clear hr3 hb3
  go_wp2_with fail
  go_ret2
  have h1 := (uh HB).size
  exact ⟨⟨p3, c3, rfl, row_base (uh R3) (by rw [World.size_alloc]; omega)⟩, ((uh HB).alloc h1 _).trans ((uh HB3).mono (by rw [World.size_alloc]; omega))⟩
 ·have HBA : ∀ c', BytesAt (w1.alloc (.cells #[.slice (some ⟨b, 0, none⟩) X c, .int .i64 (x.sy : Int)] 88)) (.slice (some ⟨b, A, none⟩) M c') ((x.bs.drop A).take M) := fun c' => (bytes_mid (uh R1) (by rw [<- uh HX]; exact hAM)).below (bal (Below.refl w1.heap.size w1) _)
  have HBZ : ∀ c', c = A -> BytesAt (w1.alloc (.cells #[.slice (some ⟨b, 0, none⟩) X c, .int .i64 (x.sy : Int)] 88)) (.slice (some ⟨b, 0, none⟩) M c') ((x.bs.drop A).take M) := fun c' e => by
   have hN : M = 0 := by omega
   rw [hN, List.take_zero]
   exact .inr ⟨b, 0, c', rfl, fun j u hj => by simp [bcs] at hj⟩
  rw [<- uh HB2] at HBA HBZ
  have hb2l : b2.length <= 1048576 := by rw [uh HLE]; omega
  by_cases hcA : c = A
  ·have HC := clone_ok (w := w1.alloc (.cells #[.slice (some ⟨b, 0, none⟩) X A, .int .i64 (x.sy : Int)] 88)) (some ⟨b, 0, none⟩) 0 b2 (by rw [uh HLE]; have h9 := HBZ 0 hcA; rw [hcA] at h9; exact h9) hb2l
   rw [uh HLE] at HC
   have HCL := hide HC
   clear HC HBA HBZ hb2l
   go_wp2_with fail
   refine (uh HCL).mono ?_
   rintro e w3 ⟨⟨p3, c3, rfl, hr3⟩, hb3⟩
   have R3 := hide hr3; have HB3 := hide hb3
   clear hr3 hb3
   go_wp2_with fail
   go_ret2
   have h1 := (uh HB).size
   exact ⟨⟨p3, c3, rfl, row_base (uh R3) (by rw [World.size_alloc]; omega)⟩, ((uh HB).alloc h1 _).trans ((uh HB3).mono (by rw [World.size_alloc]; omega))⟩
  ·have HC := clone_ok (w := w1.alloc (.cells #[.slice (some ⟨b, 0, none⟩) X c, .int .i64 (x.sy : Int)] 88)) (some ⟨b, A, none⟩) (c - A) b2 (by rw [uh HLE]; exact HBA _) hb2l
   rw [uh HLE] at HC
   have HCL := hide HC
   clear HC HBA HBZ hb2l
   go_wp2_with fail
   refine (uh HCL).mono ?_
   rintro e w3 ⟨⟨p3, c3, rfl, hr3⟩, hb3⟩
   have R3 := hide hr3; have HB3 := hide hb3
   clear hr3 hb3
   go_wp2_with fail
   go_ret2
   have h1 := (uh HB).size
   exact ⟨⟨p3, c3, rfl, row_base (uh R3) (by rw [World.size_alloc]; omega)⟩, ((uh HB).alloc h1 _).trans ((uh HB3).mono (by rw [World.size_alloc]; omega))⟩
theorem spot_of_cell {W : World} {a : Addr} {u : Value} (h : W.cell? (a.add 0) = some u) : a.spot = none := by
 have e : a.add 0 = a := by simp [Addr.add]
 rw [e] at h
 unfold World.cell? at h
 split at h
 ·cases hs : a.spot with
  | none => rfl
  | some k =>
   exfalso
   rw [hs] at h
   simp at h
 ·cases h
theorem BytesIn.at {W : World} {u : Value} {bs : List UInt8} (h : BytesIn W u bs) (hne : bs ≠ []) : BytesAt W u bs := by
 rcases h with h | ⟨a, c, rfl, h⟩
 ·exact .inl h
 ·obtain ⟨x, l, rfl⟩ := List.exists_cons_of_ne_nil hne
  have h0 : W.cell? (a.add 0) = some (.int .u8 (x.toNat : Int)) := h 0 _ rfl
  have hs := spot_of_cell h0
  obtain ⟨b, off, sp⟩ := a
  simp only at hs
  subst hs
  exact .inr ⟨b, off, c, rfl, fun j u hj => by have := h j u hj; rwa [Addr.add_mid] at this⟩
theorem BytesIn.far {W W' : World} {u : Value} {bs : List UInt8} (h : BytesIn W u bs) (hq : ∀ q, u.ownBlock = some q -> q < W.heap.size -> W'.heap[q]? = W.heap[q]?) : BytesIn W' u bs := by
 by_cases he : bs = []
 ·subst he
  rcases h with h | ⟨a, c, rfl, h⟩
  ·exact .inl h
  ·exact .inr ⟨a, c, rfl, fun j u hj => by simp [bcs] at hj⟩
 ·have h1 := h.at he
  refine (h1.far (fun q hq' => hq q hq' ?_)).in
  rcases h1 with ⟨_, h2⟩ | ⟨b, off, c, rfl, h2⟩
  ·exact absurd h2 he
  ·simp only [Value.ownBlock, Option.some.injEq] at hq'
   subst hq'
   obtain ⟨x, l, rfl⟩ := List.exists_cons_of_ne_nil he
   exact World.block_lt_of_cell? W _ (h2 0 _ rfl)
theorem BytesIn.sep {W W' : World} {S S' : Nat -> Prop} {u : Value} {bs : List UInt8} (h : BytesIn W u bs) (hs : Sep W W' S S') (hu : ∀ q, u.ownBlock = some q -> ¬ S q) : BytesIn W' u bs :=
 h.far (fun q hq hl => hs.block q hl (hu q hq))
theorem BytesIn.sep' {W W' : World} {S S' : Nat -> Prop} {u : Value} {bs : List UInt8} (h : BytesIn W u bs) (hs : Sep W W' S S') (hu : bs ≠ [] -> ∀ q, u.ownBlock = some q -> ¬ S q) : BytesIn W' u bs := by
 by_cases e : bs = []
 ·subst e
  rcases h with h | ⟨a, c, h1, _⟩
  ·exact .inl h
  ·exact .inr ⟨a, c, h1, fun j u hj => by simp [bcs] at hj⟩
 ·exact h.sep hs (hu e)
theorem run_append_i (w : World) (ty : TypeId) (v : Value) (bs : List UInt8) (hown : w.ownsRow 0 5 1 v bs.length (bcs bs)) (u : Value) (b2 : List UInt8) (hu : BytesIn w u b2) (hb : bs.length + b2.length <= 140737488351232) :
  ∃ p c w', (Builtin.append_ #[55, 55] ty #[v, u]).run Tryz.prog w = .ok (.slice p (bs ++ b2).length c) w' /\ w'.ownsRow 0 5 1 (.slice p (bs ++ b2).length c) (bs ++ b2).length (bcs (bs ++ b2)) /\ w'.ownsRow 0 5 1 v bs.length (bcs bs) /\
   (((Value.slice p (bs ++ b2).length c).ownBlock = v.ownBlock /\ w.grownBy w' v.ownBlock) \/ ((Value.slice p (bs ++ b2).length c).ownBlock = some w.heap.size /\ w.grownBy w' none)) := by
 obtain ⟨i, hi, hz, hsize, hby⟩ := info_parts info5
 rcases hu with ⟨rfl, rfl⟩ | ⟨a, c, rfl, hcell⟩
 ·have hr := run_append_owned_none (P := Tryz.prog) (w := w) 0 55 ty 5 i 1 Tryz.underlying55 hi v bs.length _ hown
  have hv : ∃ p c, v = .slice p bs.length c := by
   rcases hown.2 with ⟨h1, h2⟩ | ⟨g, cap, cur, rfl, _⟩
   ·exact ⟨none, 0, by rw [h1, h2]⟩
   ·exact ⟨_, _, rfl⟩
  obtain ⟨p, c, rfl⟩ := hv
  rw [List.append_nil]
  exact ⟨p, c, w, hr, hown, hown, .inl ⟨rfl, ⟨rfl, rfl, rfl, Nat.le_refl _, fun _ _ _ => rfl⟩⟩⟩
 ·have hnews := hcell
  rw [List.length_append, bcs_append]
  obtain ⟨v', w', hr, ho, hg, hnil, hat⟩ := run_append_own_at (P := Tryz.prog) w 0 55 ty 5 i (.int .u8 0) 1 1 Tryz.underlying55 hi hz hsize hby rfl (by decide) v bs.length _ hown a b2.length c (bcs b2) (by rw [bcs_len]; omega) hnews (bcs_one _) (by unfold maxLen; omega) (by omega) (by omega)
  have hv : ∃ p c, v' = .slice p (bs.length + b2.length) c := by
   rcases ho.2 with ⟨h1, h2⟩ | ⟨g, cap, cur, rfl, _⟩
   ·exact ⟨none, 0, by rw [h1, h2]⟩
   ·exact ⟨_, _, rfl⟩
  obtain ⟨p', c', rfl⟩ := hv
  rcases hown.2 with ⟨rfl, h0⟩ | ⟨g0, cap0, cur, rfl, hb0, hcur, hnc, hcm, hcs, htake⟩
  ·refine ⟨p', c', w', hr, ho, ?_, hat.imp (fun h => ⟨h, hg⟩) (fun h => ⟨h, hg⟩)⟩
   have : bs = [] := List.eq_nil_of_length_eq_zero h0
   subst this
   exact World.ownsRow_nil _ _ _ _
  ·by_cases hf : bs.length + b2.length <= cap0
   ·obtain ⟨w2, hr3, ho3, hg3⟩ := run_append_fits (P := Tryz.prog) w 0 55 ty 5 i 1 Tryz.underlying55 hi hsize g0 bs.length cap0 _ hown a b2.length c (bcs b2) (by rw [bcs_len]; omega) hnews (bcs_one _) hf
    exact ⟨_, _, w2, hr3, ho3, row_cut (bcs_len bs) ho3, .inl ⟨rfl, hg3⟩⟩
   ·have hr2 := run_append_grow (P := Tryz.prog) w 55 ty 5 i (.int .u8 0) Tryz.underlying55 hi hz ⟨g0, 0, none⟩ bs.length cap0 (bcs bs) (by rw [hsize, bcs_len]; omega) (hown.cells (g := g0) rfl) a b2.length c (bcs b2) (by rw [hsize, bcs_len]; omega) hnews (by omega) (by omega) (by rw [hby]; exact growslice_fits (by omega) (by omega))
    have hr4 := hr
    rw [hr2] at hr4
    injection hr4 with e1 e2
    have hg2 : w.grownBy w' none := by
     rw [<- e2]
     exact ⟨rfl, rfl, rfl, by simp, fun k hk _ => Below.heap_alloc _ _ _ hk⟩
    refine ⟨p', c', w', hr, ho, own_below hown (below_of_grown hg2), .inr ⟨?_, hg2⟩⟩
    rw [<- e1]
    rfl
theorem step_append_i {ops : Array Oper} {o : Oper} {a : Act} {K : Act -> World -> Prop} {Q : Exit -> Act -> World -> Prop} {E : Prop} (w : World) (hgd : o.guard = none) (s x : Operand)
  (ho : o.op = .call { callee := .builtin .append, args := #[s, x], argTypes := #[55, 55] })
  (v : Value) (bs : List UInt8) (hs : a.eval s = v) (hown : w.ownsRow 0 5 1 v bs.length (bcs bs)) (u : Value) (b2 : List UInt8) (hx : a.eval x = u) (hu : BytesIn w u b2) (hb : bs.length + b2.length <= 140737488351232) (b3 : List UInt8) (hb3 : b3 = bs ++ b2)
  (h : ∀ p c w', w'.ownsRow 0 5 1 (.slice p b3.length c) b3.length (bcs b3) -> w'.ownsRow 0 5 1 v bs.length (bcs bs) -> (((Value.slice p b3.length c).ownBlock = v.ownBlock /\ w.grownBy w' v.ownBlock) \/ ((Value.slice p b3.length c).ownBlock = some w.heap.size /\ w.grownBy w' none)) -> K (a.put o.dst (.slice p b3.length c)) w') :
  if Region.wanted o (yielded ops a.tmps) = true then Oper.wp Tryz.prog o a w K Q else E := by
 subst hb3
 have hw : Region.wanted o (yielded ops a.tmps) = true := by simp [Region.wanted, hgd]
 rw [if_pos hw]
 obtain ⟨p, c, w', hr, h2, h3, h4⟩ := run_append_i w o.type v bs hown u b2 hu hb
 unfold Oper.wp execOp
 simp only [ho, resolve, invoke, builtin, Sem.run_bind, Sem.run_pure, Result.andThen_ok, List.map_toArray, List.map_cons, List.map_nil, hs, hx, hr]
 exact h p c w' h2 h3 h4
theorem RefIs.data {W : World} {r g cap i : Nat} {K : Dk} {V V0 : Nat -> Prop} {k : List UInt8} {x : Fl} (h : RefIs W r K V V0 (.slice (some ⟨g, 0, none⟩) K.A.length cap)) (hg : V0 g) (hi : K.A[i]? = some (k, x)) {p : Option Addr} {c : Nat} {bs : List UInt8} (hr : W.ownsRow 0 5 1 (.slice p bs.length c) bs.length (bcs bs)) (hp : ∀ q, (Value.slice p bs.length c).ownBlock = some q -> q ≠ r) :
  RefIs (W.setCell ⟨g, i * 3 + 1, none⟩ (.slice p bs.length c)) r { K with A := K.A.set i (k, ⟨bs, x.sy⟩) } (fun q => V q \/ (Value.slice p bs.length c).ownBlock = some q) (fun q => V0 q \/ (Value.slice p bs.length c).ownBlock = some q) (.slice (some ⟨g, 0, none⟩) K.A.length cap) := by
 have hne : r ≠ g := fun e => h.out (by rw [e]; exact hg)
 have hq := Below.heap_setCell W ⟨g, i * 3 + 1, none⟩ (.slice p bs.length c) r hne
 have hlt : ∀ q, V q \/ (Value.slice p bs.length c).ownBlock = some q -> q < W.heap.size := fun q hq => hq.elim (h.vl q) (fun e => (hr.lt q e).2)
 have hb := h.bk.data hi hr (U' := fun q => V0 q \/ (Value.slice p bs.length c).ownBlock = some q) (fun q => .inl) (fun q => .inr) (fun q hq => hlt q (hq.imp (h.sub q) id))
 exact ⟨(World.cell?_of_block (a := ⟨r, 0, none⟩) hq).trans h.c0, (World.cell?_of_block (a := ⟨r, 1, none⟩) hq).trans h.c1, (World.cell?_of_block (a := ⟨r, 2, none⟩) hq).trans h.c2, (World.cell?_of_block (a := ⟨r, 3, none⟩) hq).trans h.c3, fun j => (World.frozen?_of_block (a := ⟨r, j, none⟩) hq).trans (h.fz j), hb, fun q hq => hq.imp (h.sub q) id, fun hq => hq.elim h.out (fun e => hp r e rfl), .inl h.vr, fun q hq => by simpa using hlt q hq⟩
theorem Sep.more {w w' : World} {V V' V2 : Nat -> Prop} (h : Sep w w' V V') (hn : ∀ q, V2 q -> V q \/ w.heap.size <= q) : Sep w w' V V2 := ⟨h.os, h.tape, h.output, h.size, h.block, hn⟩
theorem rappend_ok {w : World} {r : Nat} {K : Dk} {V : Nat -> Prop} (h : RefOK w r K V) (hl : K.A.length <= 64) (hO : OrdF K.A) (hf : K.fuse <= 9223372036854775807) (hf0 : -9223372036854775808 <= K.fuse) (hc : K.cap <= 1048576) (hc0 : 0 <= K.cap) (ht : totF K.A <= 1048576) (s : ByteArray) (hs : s.size <= 9223372036854775806) (pu : Option Addr) (cu : Nat) (b2 : List UInt8) (hu : BytesIn w (.slice pu b2.length cu) b2) (hul : b2.length <= 140737488351232) (hus : b2 ≠ [] -> ∀ q, (Value.slice pu b2.length cu).ownBlock = some q -> ¬ V q) :
  Calls Tryz.prog 100 #[.pointer (some ⟨r, 0, none⟩), .string s, .slice pu b2.length cu] w fun e w' => e = .returned (.int .i64 (chgK K (erA s b2 K) (appA s b2 K)).2) /\ ∃ V', RefOK w' r (chgK K (erA s b2 K) (appA s b2 K)).1 V' /\ Sep w w' V V' := by
 have HA := hide (rthere_ok h (by omega) s hs)
 have HK := hide h
 obtain ⟨V0, v, h⟩ := h
 obtain ⟨pa, ca, rfl⟩ := h.bk.form
 have hrl := h.vl r h.vr
 have c3 := h.c3
 obtain ⟨L, hL⟩ : ∃ L, L = K.A.length := ⟨_, rfl⟩
 have p0 : ∀ P : Bel w, P.W.cell? ⟨r, 0, none⟩ = some (.int .i64 K.cap) := fun P => keep1 P.h hrl h.c0
 have p1 : ∀ P : Bel w, P.W.cell? ⟨r, 1, none⟩ = some (.slice pa L ca) := fun P => by rw [hL]; exact keep1 P.h hrl h.c1
 have p2 : ∀ P : Bel w, P.W.cell? ⟨r, 2, none⟩ = some (.int .i64 K.fuse) := fun P => keep1 P.h hrl h.c2
 have p3 : ∀ P : Bel w, P.W.cell? ⟨r, 3, none⟩ = some (.bool K.down) := fun P => keep1 P.h hrl h.c3
 have HB : Hid (∀ P : Bel w, Calls Tryz.prog 206 #[.agg #[.int .i64 K.cap, .slice pa L ca, .int .i64 K.fuse, .bool K.down]] P.W fun e w'' => e = .returned (.int .i64 (totF K.A : Int)) /\ ∃ q : Bel w, w'' = q.W) := fun P => by
  rw [hL]
  exact (rbytes_ok (h.bk.below P.h) (by omega) (by omega) _ _ _).mono (fun e w' ⟨h1, h2⟩ => ⟨h1, ⟨w', P.h.trans (h2.mono P.h.size)⟩, rfl⟩)
 have HP : Hid (∀ P : Bel w, Calls Tryz.prog 203 #[.pointer (some ⟨r, 0, none⟩)] P.W fun e w' => e = .returned (.bool (powK K).2) /\ RefIs w' r (powK K).1 V V0 (.slice pa K.A.length ca) /\ Sep w w' V V) := fun P =>
  (rpower_ok (h.far (fun q hq => P.h.block q (h.vl q hq)) P.h.size) hf hf0).mono (fun e w' ⟨h1, h2, h3⟩ => ⟨h1, h2, (Sep.of_below V P.h).trans h3⟩)
 have HU := hide hu
 have HUS := hide hus
 have HKA := hide h.vl
 have HKB := hide hL
 obtain ⟨T, hT⟩ : ∃ T, T = totF K.A := ⟨_, rfl⟩
 obtain ⟨C, hC⟩ : ∃ C, C = K.cap := ⟨_, rfl⟩
 obtain ⟨M, hM⟩ : ∃ M, M = b2.length := ⟨_, rfl⟩
 rw [<- hT] at HB ht
 rw [<- hC] at HB hc hc0 p0
 rw [<- hM] at hul ⊢
 have HM := hide hM
 clear hf hf0 hu hus
 cases hd : K.down with
 | true =>
  rw [chg_down hd]
  rw [hd] at c3
  clear h hL hl hO p0 p1 p2 p3 HB hT hC hM
  go_enter Tryz.func100, Tryz.ntmps100
  go_wp2_with fail
  go_ret
  exact ⟨rfl, V, uh HK, Sep.refl _ _⟩
 | false =>
  rw [hd] at c3 p3 HB
  have HD := hide hd
  clear hd
  by_cases he : erF s K = 0
  ·obtain ⟨i, x, hi, hg, hTh⟩ := there_ok he
   rw [hTh] at HA
   have hiL : i < L := by rw [hL]; exact (List.getElem?_eq_some_iff.1 hi).1
   have hxT : x.bs.length <= T := by
    have h1 : totF (K.A.take (i + 1)) = totF (K.A.take i) + x.bs.length := tot_take hi
    have h2 := tot_le K.A (i + 1)
    rw [<- hT] at h2
    omega
   have s0 : -9223372036854775808 <= (T : Int) + (M : Int) := by omega
   have s1 : (T : Int) + (M : Int) <= 9223372036854775807 := by omega
   by_cases hfull : C < (T : Int) + (M : Int)
   ·have hA : erA s b2 K = 30 := by unfold erA; rw [if_pos ⟨he, by rw [<- hC, <- hT, <- hM]; omega⟩]
    rw [hA, chg_er (uh HD) (by decide)]
    clear h hL hl hO hT hC hM hA he hg hTh hi hiL hxT
    go_enter Tryz.func100, Tryz.ntmps100
    go_wp2_with (first | (go_at_call 205; refine (uh HA).mono ?_; rintro e w1 ⟨rfl, hw⟩; rw [hw]; clear hw w1))
    refine wp_region_quiet_below (by kernel_rfl) (by kernel_rfl) ?_
    repeat (quiet_step (first | (go_at_call 206; refine uh HB _)))
    refine wpQuiet_nil ?_
    rintro _ ⟨P, rfl⟩
    have hwr : IntKind.i64.wrap ((T : Int) + (M : Int)) = (T : Int) + (M : Int) := by rw [IntKind.wrap_i64]; omega
    go_wp2_with fail
    go_ret
    exact ⟨rfl, V, (uh HK).below P.h, Sep.of_below V P.h⟩
   ·have hA : erA s b2 K = 0 := by
     unfold erA
     rw [if_neg (fun h' => hfull (by have := h'.2; rw [<- hC, <- hT, <- hM] at this; omega))]
     exact he
    rw [hA]
    cases hp : (powK K).2 with
    | false =>
     rw [chg_no (uh HD) hp]
     rw [hp] at HP
     clear h hL hl hO hT hC hM hA he hg hTh hi hiL hxT hp
     go_enter Tryz.func100, Tryz.ntmps100
     go_wp2_with (first | (go_at_call 205; refine (uh HA).mono ?_; rintro e w1 ⟨rfl, hw⟩; rw [hw]; clear hw w1))
     refine wp_region_quiet_below (by kernel_rfl) (by kernel_rfl) ?_
     repeat (quiet_step (first | (go_at_call 206; refine uh HB _)))
     refine wpQuiet_nil ?_
     rintro _ ⟨P, rfl⟩
     have hwr : IntKind.i64.wrap ((T : Int) + (M : Int)) = (T : Int) + (M : Int) := by rw [IntKind.wrap_i64]; omega
     go_wp2_with (first | (go_at_call 203; refine (uh HP P).mono ?_; rintro e w1 ⟨rfl, hw, hs1⟩; have HW := hide hw; have HS := hide hs1; clear hw hs1))
     go_ret
     exact ⟨rfl, V, ⟨_, _, uh HW⟩, uh HS⟩
    | true =>
     rw [chg_yes (uh HD) hp]
     rw [hp] at HP
     have eN : appA s b2 K = (powK K).1.A.set i (s.data.toList, ⟨x.bs ++ b2, x.sy⟩) := by unfold appA; rw [hg, pow_A]; exact put_set _ hO hi
     rw [eN]
     obtain ⟨b3, hb3⟩ : ∃ b3, b3 = x.bs ++ b2 := ⟨_, rfl⟩
     rw [<- hb3]
     have HB3 := hide hb3
     clear hb3
     have HKL : Hid (∀ q, V q -> q < w.heap.size) := h.vl
     have hlA : K.A.length = (powK K).1.A.length := by rw [pow_A]
     rw [<- pow_A K] at hi
     obtain ⟨K1, hK1⟩ : ∃ K1, K1 = (powK K).1 := ⟨_, rfl⟩
     have hL1 : L = K1.A.length := by rw [hK1, pow_A, hL]
     rw [hlA] at HP
     rw [<- hK1] at HP hi ⊢
     have HL1 := hide hL1
     have HI := hide hi
     have i0 : (0 : Int) <= (i : Int) := by omega
     have i1 : (i : Int) < (L : Int) := by omega
     clear h hL hl hO hT hC hM hA he hg hTh hi hp eN hK1 hL1 hlA
     go_enter Tryz.func100, Tryz.ntmps100
     go_wp2_with (first | (go_at_call 205; refine (uh HA).mono ?_; rintro e w1 ⟨rfl, hw⟩; rw [hw]; clear hw w1))
     refine wp_region_quiet_below (by kernel_rfl) (by kernel_rfl) ?_
     repeat (quiet_step (first | (go_at_call 206; refine uh HB _)))
     refine wpQuiet_nil ?_
     rintro _ ⟨P, rfl⟩
     have hwr : IntKind.i64.wrap ((T : Int) + (M : Int)) = (T : Int) + (M : Int) := by rw [IntKind.wrap_i64]; omega
     go_wp2_with (first | (go_at_call 203; refine (uh HP P).mono ?_; rintro e w1 ⟨rfl, hw, hs1⟩; have HW := hide hw; have HS := hide hs1; clear hw hs1))
     obtain ⟨g, ca', pi, ci, ev, hgU, hgl, a0, a1, a2, af, ra, hraU⟩ := (uh HW).bk.at (uh HI)
     rw [<- uh HL1] at ev
     injection ev with ev eL ev3
     subst ev ev3
     clear eL
     have d1 := (uh HW).c1
     rw [<- uh HL1] at d1
     have hr1 := (uh HW).vl r (uh HW).vr
     have f2 := af (i * 3 + 1)
     have HGU := hide hgU
     have HU1 := hide ((uh HU).sep' (uh HS) (uh HUS))
     have HRA := hide (BytesAt.of_row ra).in
     rw [<- uh HM] at HU1
     have H5 : Hid (∀ w5, Below w1.heap.size w1 w5 -> (w5.cell? ⟨r, 1, none⟩ = some (.slice (some ⟨g, 0, none⟩) L ca) /\ w5.cell? ⟨g, i * 3 + 1, none⟩ = some (.slice pi x.bs.length ci) /\ w5.frozen? ⟨g, i * 3 + 1, none⟩ = false)) := fun w5 hb => ⟨keep1 hb hr1 d1, keep1 hb hgl a1, keepF hb hgl f2⟩
     obtain ⟨X, hX⟩ : ∃ X, X = x.bs.length := ⟨_, rfl⟩
     rw [<- hX] at a1 H5 HRA hxT
     have HX := hide hX
     have hB5 : ∀ (p5 : Option Addr) (c5 : Nat) (w5 : World), w5.ownsRow 0 5 1 (.slice p5 x.bs.length c5) x.bs.length (bcs x.bs) -> (((Value.slice p5 x.bs.length c5).ownBlock = (Value.slice (some ⟨w1.heap.size, 0, none⟩) 0 0).ownBlock /\ (w1.drew.alloc (.cells #[] 5)).grownBy w5 (Value.slice (some ⟨w1.heap.size, 0, none⟩) 0 0).ownBlock) \/ ((Value.slice p5 x.bs.length c5).ownBlock = some (w1.drew.alloc (.cells #[] 5)).heap.size /\ (w1.drew.alloc (.cells #[] 5)).grownBy w5 none)) -> Below w1.heap.size w1 w5 /\ ∀ q, (Value.slice p5 x.bs.length c5).ownBlock = some q -> w1.heap.size <= q := fun p5 c5 w5 r1 hg => by
      have hz := fresh_fin (w := w1.drew) (N := x.bs.length) rfl r1 hg
      exact ⟨⟨hz.2.os, hz.2.tape, hz.2.output, hz.2.size, hz.2.block⟩, fun q hq => (hz.1.lt q hq).1⟩
     have HS5 : Hid (∀ (p5 : Option Addr) (c5 : Nat) (w5 : World), w5.ownsRow 0 5 1 (.slice p5 x.bs.length c5) x.bs.length (bcs x.bs) -> (((Value.slice p5 x.bs.length c5).ownBlock = (Value.slice (some ⟨w1.heap.size, 0, none⟩) 0 0).ownBlock /\ (w1.drew.alloc (.cells #[] 5)).grownBy w5 (Value.slice (some ⟨w1.heap.size, 0, none⟩) 0 0).ownBlock) \/ ((Value.slice p5 x.bs.length c5).ownBlock = some (w1.drew.alloc (.cells #[] 5)).heap.size /\ (w1.drew.alloc (.cells #[] 5)).grownBy w5 none)) -> (w5.cell? ⟨r, 1, none⟩ = some (.slice (some ⟨g, 0, none⟩) L ca) /\ w5.cell? ⟨g, i * 3 + 1, none⟩ = some (.slice pi X ci) /\ w5.frozen? ⟨g, i * 3 + 1, none⟩ = false) /\ Hid (BytesIn w5 (.slice pu M cu) b2) /\ Hid (Below w1.heap.size w1 w5 /\ ∀ q, (Value.slice p5 x.bs.length c5).ownBlock = some q -> w1.heap.size <= q)) := fun p5 c5 w5 r1 hg => by
      have hz := hB5 p5 c5 w5 r1 hg
      exact ⟨uh H5 w5 hz.1, (uh HU1).far (fun q hq hl => hz.1.block q hl), hz⟩
     have HS6 : Hid (∀ (p5 : Option Addr) (c5 : Nat) (w5 : World) (p6 : Option Addr) (c6 : Nat) (w6 : World), (Below w1.heap.size w1 w5 /\ ∀ q, (Value.slice p5 x.bs.length c5).ownBlock = some q -> w1.heap.size <= q) -> w6.ownsRow 0 5 1 (.slice p6 b3.length c6) b3.length (bcs b3) -> (((Value.slice p6 b3.length c6).ownBlock = (Value.slice p5 x.bs.length c5).ownBlock /\ w5.grownBy w6 (Value.slice p5 x.bs.length c5).ownBlock) \/ ((Value.slice p6 b3.length c6).ownBlock = some w5.heap.size /\ w5.grownBy w6 none)) -> (w6.cell? ⟨r, 1, none⟩ = some (.slice (some ⟨g, 0, none⟩) L ca) /\ w6.cell? ⟨g, i * 3 + 1, none⟩ = some (.slice pi X ci) /\ w6.frozen? ⟨g, i * 3 + 1, none⟩ = false) /\ Hid (∃ V', RefOK (w6.setCell ⟨g, i * 3 + 1, none⟩ (.slice p6 b3.length c6)) r { K1 with A := K1.A.set i (s.data.toList, ⟨b3, x.sy⟩) } V' /\ Sep w (w6.setCell ⟨g, i * 3 + 1, none⟩ (.slice p6 b3.length c6)) V V')) := fun p5 c5 w5 p6 c6 w6 h5 r6 hg => by
      have hz := app_below hg h5.2 h5.1.size
      have hb6 : Below w1.heap.size w1 w6 := h5.1.trans hz.1
      have hW := (uh HW).far (fun q hq => hb6.block q ((uh HW).vl q hq)) hb6.size
      have hd := hW.data (uh HGU) (uh HI) r6 (fun q hq e => by have := hz.2 q hq; omega)
      refine ⟨uh H5 w6 hb6, _, ⟨_, _, hd⟩, ?_⟩
      have hs2 := ((uh HS).trans (Sep.of_below V hb6)).trans (Sep.cell w6 V g (i * 3 + 1) (.slice p6 b3.length c6) (hW.sub g (uh HGU)))
      refine hs2.more (fun q hq => hq.imp id (fun e => ?_))
      have h1 := hz.2 q e
      have h2 := (uh HS).size
      omega
     have HRB : Hid (BytesIn (w1.drew.alloc (.cells #[] 5)) (.slice pi X ci) x.bs) := (uh HRA).far (fun q hq hl => Below.heap_alloc _ _ _ hl)
     have HLB : Hid (([] : List UInt8).length + x.bs.length <= 140737488351232) := by show _ <= _; rw [<- hX]; simp; omega
     have HLC : Hid (x.bs.length + b2.length <= 140737488351232) := by show _ <= _; rw [<- hX, <- uh HM]; omega
     have d1a := fun o => keep1 (bal (Below.refl w1.heap.size w1) o) hr1 d1
     have a1a := fun o => keep1 (bal (Below.refl w1.heap.size w1) o) hgl a1
     have f1a := fun o => keepF (bal (Below.refl w1.heap.size w1) o) hgl f2
     clear a0 a2 ra hraU af hgU hX hB5
     go_region_law (first
      | ((refine step_append_i _ (by rfl) _ _ (by rfl) (.slice (some ⟨w1.heap.size, 0, none⟩) 0 0) [] (by rfl) (row_none w1.drew) (.slice pi X ci) x.bs (by rfl) (uh HRB) (uh HLB) x.bs rfl ?_; intro p5 c5 w5 r5 r5' hg5; obtain ⟨⟨m0, m1, m2⟩, HU5, HB5⟩ := uh HS5 p5 c5 w5 r5 hg5; have R5 := hide r5; clear r5 r5' hg5))
      | ((refine step_append_i _ (by rfl) _ _ (by rfl) (.slice p5 x.bs.length c5) x.bs (by rfl) (uh R5) (.slice pu M cu) b2 (by rfl) (uh HU5) (uh HLC) b3 (uh HB3) ?_; intro p6 c6 w6 r6 r6' hg6; obtain ⟨⟨n0, n1, n2⟩, HF⟩ := uh HS6 p5 c5 w5 p6 c6 w6 (uh HB5) r6 hg6; clear r6 r6' hg6)))
     all_goals go_wp2_with fail
     all_goals go_ret
     all_goals exact ⟨rfl, uh HF⟩
  ·have hA : erA s b2 K = erF s K := by unfold erA; rw [if_neg (fun h' => he h'.1)]
   rw [hA, chg_er (uh HD) he]
   rw [there_er he] at HA
   obtain ⟨er, her⟩ : ∃ er, er = erF s K := ⟨_, rfl⟩
   rw [<- her] at HA he ⊢
   clear h hL hl hO her hA p0 p1 p2 p3 HB hT hC hM
   go_enter Tryz.func100, Tryz.ntmps100
   go_wp2_with (first | (go_at_call 205; refine (uh HA).mono ?_; rintro e w1 ⟨rfl, hw⟩; rw [hw]; clear hw w1))
   go_ret
   exact ⟨rfl, V, uh HK, Sep.refl _ _⟩
theorem rleft_any {w : World} (s : Value) (hs1 : ∃ b, s = .string b) (p : Option Addr) (c : Nat) (x : Fl) (hsy : x.sy <= x.bs.length) (hxl : x.bs.length <= 1048576) (j : Nat) (hj : j <= 1000) (pk : Option Addr) (ck : Nat) (ks : List Int) (hk : ks ≠ [] -> KsAt w (.slice pk ks.length ck) ks) (hkl : ks.length <= 4000000000000000000) :
  Calls Tryz.prog 213 #[.agg #[s, .slice p x.bs.length c, .int .i64 (x.sy : Int)], .int .i64 (j : Int), .slice pk ks.length ck] w fun e w' => e = .returned (.int .i64 (leftC ks j x : Int)) /\ Below w.heap.size w w' := by
 by_cases hke : ks = []
 ·obtain ⟨sb, rfl⟩ := hs1
  have hlen0 : ks.length = 0 := by rw [hke]; rfl
  have hl2 : leftC ks j x = x.sy := by unfold leftC; rw [if_pos hke]
  rw [hl2, hlen0]
  obtain ⟨X, hX⟩ : ∃ X, X = x.bs.length := ⟨_, rfl⟩
  obtain ⟨Y, hY⟩ : ∃ Y, Y = x.sy := ⟨_, rfl⟩
  rw [<- hX, <- hY]
  clear hl2 hX hY hlen0 hke hk hsy hxl
  go_enter Tryz.func213, Tryz.ntmps213
  go_wp2_with fail
  go_ret
  exact ⟨rfl, bal (Below.refl _ _) _⟩
 ·exact rleft_ok s hs1 p c x hsy hxl j hj pk ck ks (hk hke) hkl
theorem frozen_set {W : World} {b j : Nat} (h : W.frozen? ⟨b, j, none⟩ = false) (j' : Nat) (u : Value) : (W.setCell ⟨b, j', none⟩ u).frozen? ⟨b, j, none⟩ = false := by
 rw [World.frozen?_setCell]
 exact h
def CrW (w : World) (r g ca : Nat) (K : Dk) (V : Nat -> Prop) (ks : List Int) (j : Nat) (W : World) : Prop :=
 ∃ V' V0, RefIs W r ⟨K.cap, cutTo ks K.A j, K.fuse, K.down⟩ V' V0 (.slice (some ⟨g, 0, none⟩) K.A.length ca) /\ V0 g /\ Sep w W V V'
theorem CrW.step {w wr w6 : World} {r g ca : Nat} {K : Dk} {V : Nat -> Prop} {ks : List Int} {j n : Nat} (h : CrW w r g ca K V ks j wr) {k : List UInt8} {x : Fl} (hx : K.A[j]? = some (k, x)) (hO : OrdF K.A) (hb : Below wr.heap.size wr w6) {p : Option Addr} {c : Nat} {bs : List UInt8} (hr : w6.ownsRow 0 5 1 (.slice p bs.length c) bs.length (bcs bs)) (hp : ∀ q, (Value.slice p bs.length c).ownBlock = some q -> wr.heap.size <= q) (hbn : (⟨bs, n⟩ : Fl) = cutF ks j x) :
  CrW w r g ca K V ks (j + 1) ((w6.setCell ⟨g, j * 3 + 1, none⟩ (.slice p bs.length c)).setCell ⟨g, j * 3 + 2, none⟩ (.int .i64 (n : Int))) := by
 obtain ⟨V', V0, h, hg, hs⟩ := h
 have hj : (cutTo ks K.A j)[j]? = some (k, x) := by rw [cutTo_get, hx]; simp
 have hlen := cutTo_len ks K.A j
 have h6 := h.far (fun q hq => hb.block q (h.vl q hq)) hb.size
 have hrl := h.vl r h.vr
 rw [<- hlen] at h6
 have hd := h6.data hg hj hr (fun q hq e => by have := hp q hq; omega)
 have hj2 : ((cutTo ks K.A j).set j (k, ⟨bs, x.sy⟩))[j]? = some (k, ⟨bs, x.sy⟩) := by
  rw [List.getElem?_set_self]
  exact (List.getElem?_eq_some_iff.1 hj).1
 have hlen2 : ((cutTo ks K.A j).set j (k, (⟨bs, x.sy⟩ : Fl))).length = (cutTo ks K.A j).length := List.length_set
 have hbk := hd.bk
 simp only at hbk
 rw [<- hlen2] at hbk
 have hr2 := hbk.sync hj2 n
 simp only [List.set_set] at hr2
 rw [hlen2] at hr2
 have hz := hd.row (.inl hg) hr2
 have e1 : (cutTo ks K.A j).set j (k, (⟨bs, n⟩ : Fl)) = cutTo ks K.A (j + 1) := by
  rw [hbn, <- cutTo_step ks hO hx]
  exact (put_set _ (cutTo_ord ks j hO) hj).symm
 simp only [e1, hlen] at hz
 refine ⟨_, _, hz, .inl hg, ?_⟩
 have hs2 := ((hs.trans (Sep.of_below V' hb)).trans (Sep.cell w6 V' g (j * 3 + 1) (.slice p bs.length c) (h.sub g hg))).trans (Sep.cell _ V' g (j * 3 + 2) (.int .i64 (n : Int)) (h.sub g hg))
 refine hs2.more (fun q hq => ?_)
 rcases hq with hq | hq
 ·exact hs.new q hq
 ·have h1 := hp q hq
  have h2 := hs.size
  exact .inr (by omega)
theorem rcrash_some {w : World} {r g ca : Nat} {K : Dk} {V V0 : Nat -> Prop} (h : RefIs w r K V V0 (.slice (some ⟨g, 0, none⟩) K.A.length ca)) (hgV : V0 g) (hI : Inv K) (pk : Option Addr) (ck : Nat) (ks : List Int) (hk : ks ≠ [] -> KsAt w (.slice pk ks.length ck) ks) (hks : ks ≠ [] -> ∀ q, (Value.slice pk ks.length ck).ownBlock = some q -> ¬ V q) (hkl : ks.length <= 4000000000000000000) :
  Calls Tryz.prog 109 #[.pointer (some ⟨r, 0, none⟩), .slice pk ks.length ck] w fun e w' => (∃ v, e = .returned v) /\ ∃ V', RefOK w' r (crashK ks K) V' /\ Sep w w' V V' := by
 have HI := hide hI
 have HK := hide hk
 have HKS := hide hks
 have hAl := hI.many
 have H0 : Hid (CrW w r g ca K V ks 0 w) := ⟨V, V0, by rw [cutTo_zero]; exact h, hgV, Sep.refl _ _⟩
 have HNE : Hid (r ≠ g) := fun e => h.out (by rw [e]; exact hgV)
 obtain ⟨L, hL⟩ : ∃ L, L = K.A.length := ⟨_, rfl⟩
 rw [<- hL] at hAl
 have HL := hide hL
 have HO : Hid (OrdF K.A) := hI.ord
 clear h hI hk hks hL hgV
 obtain ⟨kn, hkn⟩ : ∃ kn, kn = ks.length := ⟨_, rfl⟩
 rw [<- hkn] at hkl ⊢
 have HKN := hide hkn
 clear hkn
 go_enter Tryz.func109, Tryz.ntmps109
 go_wp2_with fail
 go_loopw [4] (fun u wr => ∃ (j : Nat), j <= L /\ u = .int .i64 (j : Int) /\ CrW w r g ca K V ks j wr) (fun u _ => L - (intOf u).toNat)
 case atStart => exact ⟨0, Nat.zero_le _, rfl, uh H0⟩
 case round =>
  obtain ⟨j, hj, rfl, hst⟩ := hrel
  have HST := hide hst
  obtain ⟨V', V1, hR, hgV, hsep⟩ := hst
  have c1 := hR.c1
  rw [<- uh HL] at c1
  have hrl' := hR.vl r hR.vr
  by_cases hlt : j < L
  ·have hkx : ∃ k x, K.A[j]? = some (k, x) := by
    have : j < K.A.length := by rw [<- uh HL]; exact hlt
    exact ⟨_, _, List.getElem?_eq_getElem this⟩
   obtain ⟨k, x, hkx⟩ := hkx
   have HAJ := hide hkx
   have hjx : (cutTo ks K.A j)[j]? = some (k, x) := by rw [cutTo_get, hkx]; simp
   obtain ⟨g', ca', pi, ci, ev, hgU, hgl, a0, a1, a2, af, ra, hraU⟩ := hR.bk.at hjx
   injection ev with ev eL ev3
   injection ev with ev
   injection ev with ev
   subst ev ev3
   clear eL
   have a4 := af (j * 3 + 1)
   have a5 := af (j * 3 + 2)
   have hsy := (uh HI).sy _ (List.mem_of_getElem? hkx)
   simp only at hsy
   have hxl : x.bs.length <= 1048576 := by
    have h1 : totF (K.A.take (j + 1)) = totF (K.A.take j) + x.bs.length := tot_take hkx
    have h2 := tot_le K.A (j + 1)
    have h3 := (uh HI).tot
    have h4 := (uh HI).cap1
    omega
   have hKr : ks ≠ [] -> KsAt wr (.slice pk ks.length ck) ks := fun hne => by
    have h1 := uh HK hne
    rcases h1 with h1 | ⟨b, off, c', h1, h2⟩
    ·exact .inl h1
    ·injection h1 with h1 _ h3
     subst h1 h3
     refine .inr ⟨b, off, ck, rfl, fun i k' hi => ?_⟩
     have h4 := h2 i k' hi
     exact (World.cell?_of_block (a := ⟨b, off + i, none⟩) (hsep.block b (World.block_lt_of_cell? w _ h4) (uh HKS hne b rfl))).trans h4
   have HLF := hide (rleft_any (w := wr) (encStr k) ⟨_, rfl⟩ pi ci x hsy hxl j (by omega) pk ck ks hKr (by rw [<- uh HKN]; exact hkl))
   rw [<- uh HKN] at HLF
   have hle := left_le ks j hsy
   have HBL0 := cut_len ks j hsy
   have hform : pi = none /\ x.bs = [] /\ ci = 0 \/ ∃ b, pi = some ⟨b, 0, none⟩ := by
    rcases ra.2 with ⟨h1, h2⟩ | ⟨b, _, _, h1, _⟩
    ·injection h1 with h1 _ h1c
     exact .inl ⟨h1, List.eq_nil_of_length_eq_zero h2, h1c⟩
    ·injection h1 with h1 _ _
     exact .inr ⟨b, h1⟩
   have hcap : x.bs.length <= ci := by
    rcases ra.2 with ⟨h1, h2⟩ | ⟨_, _, _, h1, _, _, h3, _⟩
    ·omega
    ·injection h1 with _ _ h1c
     omega
   obtain ⟨n, hn⟩ : ∃ n, n = leftC ks j x := ⟨_, rfl⟩
   obtain ⟨bs', hbs'⟩ : ∃ bs', bs' = x.bs.take n := ⟨_, rfl⟩
   have HBN : Hid ((⟨bs', n⟩ : Fl) = cutF ks j x) := by show _ = _; rw [hbs', hn]; rfl
   rw [<- hn] at HLF hle HBL0
   have HBL : Hid (bs'.length = n) := by show _ = _; rw [hbs', List.length_take]; omega
   have HBY0 : ∀ b, pi = some ⟨b, 0, none⟩ -> BytesIn wr (.slice (some ⟨b, 0, none⟩) n ci) bs' := fun b e => by
    rw [e] at ra
    have := bytes_mid (A := 0) (N := n) (c' := ci) ra (by omega)
    rw [List.drop_zero, <- hbs'] at this
    exact this.in
   obtain ⟨X, hX⟩ : ∃ X, X = x.bs.length := ⟨_, rfl⟩
   rw [<- hX] at a1 HLF hle hcap hxl
   have HX := hide hX
   have i0 : (0 : Int) <= (j : Int) := by omega
   have i1 : (j : Int) < (L : Int) := by omega
   have k1 : (0 : Int) <= (n : Int) := by omega
   have k3 : (n : Int) <= (ci : Int) := by omega
   rcases hform with ⟨rfl, hbs, rfl⟩ | ⟨b, rfl⟩
   ·have hX0 : X = 0 := by rw [uh HX, hbs]; rfl
    subst hX0
    obtain rfl : n = 0 := by omega
    have HBY : Hid (BytesIn wr (.slice none 0 0) bs') := .inl ⟨rfl, by rw [hbs', hbs]; rfl⟩
    clear HBY0 hX hn hbs' hbs HBL0 hsy hKr hR hgV hsep ra hraU hgU hjx hkx af
    go_wp2_with (first | (go_at_call 213; refine (uh HLF).mono ?_; rintro e w5 ⟨rfl, hb5⟩; have B5 : Hid (Below wr.heap.size wr w5) := hb5; have d1 := keep1 hb5 hrl' c1; have d2 := keep1 hb5 hgl a1; have d3 := keep1 hb5 hgl a2; have f1 := keepF hb5 hgl a4; have f2 := keepF hb5 hgl a5; have hz5 : wr.heap.size <= w5.heap.size := hb5.size; clear hb5))
    have hr5 : r < w5.heap.size := by omega
    have hg5 : g < w5.heap.size := by omega
    have d1a := fun o => keep1 (bal (Below.refl w5.heap.size w5) o) hr5 d1
    have d2a := fun o => keep1 (bal (Below.refl w5.heap.size w5) o) hg5 d2
    have f1a := fun o => keepF (bal (Below.refl w5.heap.size w5) o) hg5 f1
    have HRB : Hid (BytesIn (w5.drew.alloc (.cells #[] 5)) (.slice none 0 0) bs') := ((uh HBY).far (fun q hq hl => (uh B5).block q hl)).far (fun q hq hl => Below.heap_alloc _ _ _ hl)
    have HS6 : Hid (∀ (p6 : Option Addr) (c6 : Nat) (w6 : World), w6.ownsRow 0 5 1 (.slice p6 bs'.length c6) bs'.length (bcs bs') -> (((Value.slice p6 bs'.length c6).ownBlock = (Value.slice (some ⟨w5.heap.size, 0, none⟩) 0 0).ownBlock /\ (w5.drew.alloc (.cells #[] 5)).grownBy w6 (Value.slice (some ⟨w5.heap.size, 0, none⟩) 0 0).ownBlock) \/ ((Value.slice p6 bs'.length c6).ownBlock = some (w5.drew.alloc (.cells #[] 5)).heap.size /\ (w5.drew.alloc (.cells #[] 5)).grownBy w6 none)) -> (w6.cell? ⟨r, 1, none⟩ = some (.slice (some ⟨g, 0, none⟩) L ca) /\ w6.cell? ⟨g, j * 3 + 1, none⟩ = some (.slice none 0 0) /\ w6.frozen? ⟨g, j * 3 + 1, none⟩ = false /\ (∀ u, (w6.setCell ⟨g, j * 3 + 1, none⟩ u).cell? ⟨r, 1, none⟩ = some (.slice (some ⟨g, 0, none⟩) L ca)) /\ (∀ u, (w6.setCell ⟨g, j * 3 + 1, none⟩ u).frozen? ⟨g, j * 3 + 2, none⟩ = false) /\ ∀ u, (w6.setCell ⟨g, j * 3 + 1, none⟩ u).cell? ⟨g, j * 3 + 2, none⟩ = some (.int .i64 (x.sy : Int))) /\ Hid (CrW w r g ca K V ks (j + 1) ((w6.setCell ⟨g, j * 3 + 1, none⟩ (.slice p6 bs'.length c6)).setCell ⟨g, j * 3 + 2, none⟩ (.int .i64 ((0 : Nat) : Int))))) := fun p6 c6 w6 r6 hg => by
     have hz := fresh_fin (w := w5.drew) (N := bs'.length) rfl r6 hg
     have hb6 : Below w5.heap.size w5 w6 := ⟨hz.2.os, hz.2.tape, hz.2.output, hz.2.size, hz.2.block⟩
     have hb7 : Below wr.heap.size wr w6 := (uh B5).trans (hb6.mono hz5)
     refine ⟨⟨keep1 hb6 hr5 d1, keep1 hb6 hg5 d2, keepF hb6 hg5 f1, fun u => ?_, fun u => ?_, fun u => ?_⟩, ?_⟩
     ·exact (World.cell?_of_block (a := ⟨r, 1, none⟩) (Below.heap_setCell w6 ⟨g, j * 3 + 1, none⟩ u r (uh HNE))).trans (keep1 hb6 hr5 d1)
     ·exact frozen_set (keepF hb6 hg5 f2) _ _
     ·exact (World.cell?_setCell_other w6 ⟨g, j * 3 + 1, none⟩ ⟨g, j * 3 + 2, none⟩ u (by simp)).trans (keep1 hb6 hg5 d3)
     ·have hst := (uh HST).step (uh HAJ) (uh HO) hb7 r6 (fun q hq => Nat.le_trans hz5 (hz.1.lt q hq).1) (uh HBN)
      exact hst
    have HLB : Hid (([] : List UInt8).length + bs'.length <= 140737488351232) := by show _ <= _; rw [uh HBL, List.length_nil]; omega
    refine wp_region_last (n := 21) (S := fun W => W.cell? ⟨r, 1, none⟩ = some (.slice (some ⟨g, 0, none⟩) L ca) /\ W.cell? ⟨g, j * 3 + 1, none⟩ = some (.slice none 0 0)) (by kernel_rfl) (by first | (exact ⟨d1, d2⟩)) (fun hHeld => ?_)
    refine tkW 0 ?_; refine tkW 1 ?_; refine tkW 2 ?_; refine tkW 3 ?_; refine tkS 4 ?_; refine tkW 5 ?_; refine tkW 7 ?_; refine tkW 8 ?_; refine tkW 9 ?_; refine tkW 10 ?_; refine tkS 11 ?_
    refine tkW 12 ?_; refine tkW 13 ?_; refine tkW 14 ?_; refine tkS 15 ?_; refine tkW 16 ?_; refine tkW 17 ?_
    refine wpAnyL_one (i := 6) (by kernel_rfl) rfl (fun K hK => ?_)
    go_simp
    refine hK.out _ _ (by first | (exact ⟨d1a _, d2a _⟩)) (fun hHeld => ?_)
    clear hK K
    refine wpAnyL_one (i := 18) (by kernel_rfl) rfl (fun K hK => ?_)
    refine step_append_i _ (by rfl) _ _ (by rfl) (.slice (some ⟨w5.heap.size, 0, none⟩) 0 0) [] (by rfl) (row_none w5.drew) (.slice none 0 0) bs' (by first | rfl | (simp [Act.eval]; done)) (uh HRB) (uh HLB) bs' rfl ?_
    intro p6 c6 w6 r6 r6' hg6
    obtain ⟨⟨n0, n1, n2, n3, n4, n5⟩, HF⟩ := uh HS6 p6 c6 w6 r6 hg6
    clear r6 r6' hg6
    refine hK.out _ _ (by first | (exact ⟨n0, n1⟩)) (fun hHeld => ?_)
    clear hK K
    refine tkW 19 ?_; refine tkW 20 ?_
    refine wpAnyL_end (i := 21) (by kernel_rfl) rfl (by kernel_rfl) (by kernel_rfl) (fun K hK => ?_)
    go_simp
    refine hK.out _ _ ?_
    clear hK K
    go_wp2_with fail
    exact ⟨⟨j + 1, by omega, by go_num, uh HF⟩, by simp [intOf]; omega⟩
   ·have HBY := hide (HBY0 b rfl)
    clear HBY0 hX hn hbs' HBL0 hsy hKr hR hgV hsep ra hraU hgU hjx hkx af
    go_wp2_with (first | (go_at_call 213; refine (uh HLF).mono ?_; rintro e w5 ⟨rfl, hb5⟩; have B5 : Hid (Below wr.heap.size wr w5) := hb5; have d1 := keep1 hb5 hrl' c1; have d2 := keep1 hb5 hgl a1; have d3 := keep1 hb5 hgl a2; have f1 := keepF hb5 hgl a4; have f2 := keepF hb5 hgl a5; have hz5 : wr.heap.size <= w5.heap.size := hb5.size; clear hb5))
    have hr5 : r < w5.heap.size := by omega
    have hg5 : g < w5.heap.size := by omega
    have d1a := fun o => keep1 (bal (Below.refl w5.heap.size w5) o) hr5 d1
    have d2a := fun o => keep1 (bal (Below.refl w5.heap.size w5) o) hg5 d2
    have f1a := fun o => keepF (bal (Below.refl w5.heap.size w5) o) hg5 f1
    have HRB : Hid (BytesIn (w5.drew.alloc (.cells #[] 5)) (.slice (some ⟨b, 0, none⟩) n ci) bs') := ((uh HBY).far (fun q hq hl => (uh B5).block q hl)).far (fun q hq hl => Below.heap_alloc _ _ _ hl)
    have HS6 : Hid (∀ (p6 : Option Addr) (c6 : Nat) (w6 : World), w6.ownsRow 0 5 1 (.slice p6 bs'.length c6) bs'.length (bcs bs') -> (((Value.slice p6 bs'.length c6).ownBlock = (Value.slice (some ⟨w5.heap.size, 0, none⟩) 0 0).ownBlock /\ (w5.drew.alloc (.cells #[] 5)).grownBy w6 (Value.slice (some ⟨w5.heap.size, 0, none⟩) 0 0).ownBlock) \/ ((Value.slice p6 bs'.length c6).ownBlock = some (w5.drew.alloc (.cells #[] 5)).heap.size /\ (w5.drew.alloc (.cells #[] 5)).grownBy w6 none)) -> (w6.cell? ⟨r, 1, none⟩ = some (.slice (some ⟨g, 0, none⟩) L ca) /\ w6.cell? ⟨g, j * 3 + 1, none⟩ = some (.slice (some ⟨b, 0, none⟩) X ci) /\ w6.frozen? ⟨g, j * 3 + 1, none⟩ = false /\ (∀ u, (w6.setCell ⟨g, j * 3 + 1, none⟩ u).cell? ⟨r, 1, none⟩ = some (.slice (some ⟨g, 0, none⟩) L ca)) /\ (∀ u, (w6.setCell ⟨g, j * 3 + 1, none⟩ u).frozen? ⟨g, j * 3 + 2, none⟩ = false) /\ ∀ u, (w6.setCell ⟨g, j * 3 + 1, none⟩ u).cell? ⟨g, j * 3 + 2, none⟩ = some (.int .i64 (x.sy : Int))) /\ Hid (CrW w r g ca K V ks (j + 1) ((w6.setCell ⟨g, j * 3 + 1, none⟩ (.slice p6 bs'.length c6)).setCell ⟨g, j * 3 + 2, none⟩ (.int .i64 ((n : Nat) : Int))))) := fun p6 c6 w6 r6 hg => by
     have hz := fresh_fin (w := w5.drew) (N := bs'.length) rfl r6 hg
     have hb6 : Below w5.heap.size w5 w6 := ⟨hz.2.os, hz.2.tape, hz.2.output, hz.2.size, hz.2.block⟩
     have hb7 : Below wr.heap.size wr w6 := (uh B5).trans (hb6.mono hz5)
     refine ⟨⟨keep1 hb6 hr5 d1, keep1 hb6 hg5 d2, keepF hb6 hg5 f1, fun u => ?_, fun u => ?_, fun u => ?_⟩, ?_⟩
     ·exact (World.cell?_of_block (a := ⟨r, 1, none⟩) (Below.heap_setCell w6 ⟨g, j * 3 + 1, none⟩ u r (uh HNE))).trans (keep1 hb6 hr5 d1)
     ·exact frozen_set (keepF hb6 hg5 f2) _ _
     ·exact (World.cell?_setCell_other w6 ⟨g, j * 3 + 1, none⟩ ⟨g, j * 3 + 2, none⟩ u (by simp)).trans (keep1 hb6 hg5 d3)
     ·have hst := (uh HST).step (uh HAJ) (uh HO) hb7 r6 (fun q hq => Nat.le_trans hz5 (hz.1.lt q hq).1) (uh HBN)
      exact hst
    have HLB : Hid (([] : List UInt8).length + bs'.length <= 140737488351232) := by show _ <= _; rw [uh HBL, List.length_nil]; omega
    refine wp_region_last (n := 21) (S := fun W => W.cell? ⟨r, 1, none⟩ = some (.slice (some ⟨g, 0, none⟩) L ca) /\ W.cell? ⟨g, j * 3 + 1, none⟩ = some (.slice (some ⟨b, 0, none⟩) X ci)) (by kernel_rfl) (by first | (exact ⟨d1, d2⟩)) (fun hHeld => ?_)
    refine tkW 0 ?_; refine tkW 1 ?_; refine tkW 2 ?_; refine tkW 3 ?_; refine tkS 4 ?_; refine tkW 5 ?_; refine tkW 7 ?_; refine tkW 8 ?_; refine tkW 9 ?_; refine tkW 10 ?_; refine tkS 11 ?_
    refine tkW 12 ?_; refine tkW 13 ?_; refine tkW 14 ?_; refine tkS 15 ?_; refine tkW 16 ?_; refine tkW 17 ?_
    refine wpAnyL_one (i := 6) (by kernel_rfl) rfl (fun K hK => ?_)
    go_simp
    refine hK.out _ _ (by first | (exact ⟨d1a _, d2a _⟩)) (fun hHeld => ?_)
    clear hK K
    refine wpAnyL_one (i := 18) (by kernel_rfl) rfl (fun K hK => ?_)
    refine step_append_i _ (by rfl) _ _ (by rfl) (.slice (some ⟨w5.heap.size, 0, none⟩) 0 0) [] (by rfl) (row_none w5.drew) (.slice (some ⟨b, 0, none⟩) n ci) bs' (by first | rfl | (simp [Act.eval]; done)) (uh HRB) (uh HLB) bs' rfl ?_
    intro p6 c6 w6 r6 r6' hg6
    obtain ⟨⟨n0, n1, n2, n3, n4, n5⟩, HF⟩ := uh HS6 p6 c6 w6 r6 hg6
    clear r6 r6' hg6
    refine hK.out _ _ (by first | (exact ⟨n0, n1⟩)) (fun hHeld => ?_)
    clear hK K
    refine tkW 19 ?_; refine tkW 20 ?_
    refine wpAnyL_end (i := 21) (by kernel_rfl) rfl (by kernel_rfl) (by kernel_rfl) (fun K hK => ?_)
    go_simp
    refine hK.out _ _ ?_
    clear hK K
    go_wp2_with fail
    exact ⟨⟨j + 1, by omega, by go_num, uh HF⟩, by simp [intOf]; omega⟩
  ·have hjL : j = L := by omega
   subst hjL
   have i1 : ¬ (j : Int) < (j : Int) := by omega
   have f2 := hR.fz 2
   have f3 := hR.fz 3
   have f3a : ∀ u, (wr.setCell ⟨r, 2, none⟩ u).frozen? ⟨r, 3, none⟩ = false := fun u => frozen_set f3 _ _
   have c2 := hR.c2
   have c3 := hR.c3
   have c3a : ∀ u, (wr.setCell ⟨r, 2, none⟩ u).cell? ⟨r, 3, none⟩ = some (.bool K.down) := fun u => (World.cell?_setCell_other wr ⟨r, 2, none⟩ ⟨r, 3, none⟩ u (by simp)).trans c3
   have hz := (hR.fuse (-1)).downs false
   rw [uh HL] at hz
   have hs2 := (hsep.trans (Sep.cell wr V' r 2 (.int .i64 (-1)) hR.vr)).trans (Sep.cell _ V' r 3 (.bool false) hR.vr)
   have HZ : Hid (∃ V', RefOK ((wr.setCell ⟨r, 2, none⟩ (.int .i64 (-1))).setCell ⟨r, 3, none⟩ (.bool false)) r (crashK ks K) V' /\ Sep w ((wr.setCell ⟨r, 2, none⟩ (.int .i64 (-1))).setCell ⟨r, 3, none⟩ (.bool false)) V V') := ⟨V', ⟨V1, _, hz⟩, hs2⟩
   clear hz hs2 hR hsep hgV
   go_wp2_with fail
   go_end0
   exact ⟨⟨_, rfl⟩, uh HZ⟩
end Go.Proofs.YtpeohbkigkfcgaaGreatDoor
