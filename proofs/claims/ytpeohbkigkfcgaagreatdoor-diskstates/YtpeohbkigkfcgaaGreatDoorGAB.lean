import Derived.Test.YtpeohbkigkfcgaaGreatDoorGAA
import Derived.Shelf.Abstract
import Derived.Deep.RegionHeld3
import Derived.Deep.RegionLaw
import Derived.Deep.RegionHeldLaw
import Derived.Maps.RangeWalk
import Derived.Sort.KeysCollected
import Derived.RangeFuncOwn
set_option linter.unusedVariables false
set_option linter.unusedSimpArgs false
set_option maxRecDepth 100000
set_option maxHeartbeats 16000000
namespace Go.Proofs.YtpeohbkigkfcgaaGreatDoor
open Go Go.Shelf Go.ChangeShapes Go.WideShapes Go.ChangeAt Go.RowKit
theorem apart_two : ∀ {l : List (Lit × DataW Value)}, l.Pairwise (fun x y => ∀ q, blk x = some q -> blk y ≠ some q) -> ∀ x ∈ l, ∀ y ∈ l, x ≠ y -> ∀ q, blk x = some q -> blk y ≠ some q
 | [], _, x, hx, _, _, _, _, _ => by cases hx
 | a :: l, h, x, hx, y, hy, hne, q, hq => by
  rw [List.pairwise_cons] at h
  rcases List.mem_cons.1 hx with hx1 | hx1
  ·subst hx1
   rcases List.mem_cons.1 hy with hy1 | hy1
   ·exact absurd hy1.symm hne
   ·exact h.1 y hy1 q hq
  ·rcases List.mem_cons.1 hy with hy1 | hy1
   ·subst hy1
    exact fun h' => h.1 x hx1 q h' hq
   ·exact apart_two h.2 x hx1 y hy1 hne q hq
def erF (s : ByteArray) (K : Dk) : Int := if nameS s = false then 32 else if (getF s.data.toList K.A).isSome = true then 0 else 31
structure Hit (w : World) (s : ByteArray) (K : Dk) (es : List (Lit × DataW Value)) (p : Option Addr) (m c : Nat) (y : Int) (x : Fl) : Prop where
 get : getF s.data.toList K.A = some x
 len : m = x.bs.length
 syn : y = (x.sy : Int)
 mem : (Lit.string s.data.toList, DataW.held (.agg #[.slice p m c, .int .i64 y])) ∈ es
 row : w.ownsRow 0 5 1 (.slice p m c) m (bcs x.bs)
def FindK (w : World) (s : ByteArray) (K : Dk) (es : List (Lit × DataW Value)) (p : Option Addr) (m c : Nat) (y er : Int) : Prop :=
 er = erF s K /\ (er ≠ 0 -> p = none /\ m = 0 /\ c = 0 /\ y = 0) /\ (er = 0 -> ∃ x, Hit w s K es p m c y x)
theorem find_ok {w : World} {d N n : Nat} {K : Dk} {S : Nat -> Prop} {mo : Option Nat} {es : List (Lit × DataW Value)} (h : DiskIs w d N K S mo n es) (s : ByteArray) (hs : s.size <= maxLen) :
  Calls Tryz.prog 148 #[.pointer (some ⟨d, 0, none⟩), .string s] w fun e w' => (∃ p m c y er, e = .returned (.tuple #[.agg #[.slice p m c, .int .i64 y], .int .i64 er]) /\ FindK w s K es p m c y er) /\ Below w.heap.size w w' := by
 refine (find_any s hs d n mo K.cap K.fuse K.down (.map es) w h.at').mono ?_
 rintro e w' ⟨⟨p, m, c, y, er, he, hc, hz⟩, hb⟩
 refine ⟨⟨p, m, c, y, er, he, ?_, hz, fun h0 => ?_⟩, hb⟩
 ·unfold erF
  rcases hc with ⟨h1, h2⟩ | ⟨h1, h2, h3⟩ | ⟨h1, h2, h3, _⟩
  ·rw [if_pos h1, h2]
  ·rw [has_tie h.fs.all] at h2
   rw [if_neg (by rw [h1]; simp), if_neg (by rw [h2]; simp), h3]
  ·rw [has_tie h.fs.all] at h2
   rw [if_neg (by rw [h1]; simp), if_pos h2, h3]
 ·rcases hc with ⟨h1, h2⟩ | ⟨h1, h2, h3⟩ | ⟨h1, h2, h3, h4⟩
  ·omega
  ·omega
  ·rw [has_tie h.fs.all, Option.isSome_iff_exists] at h2
   obtain ⟨x, hx⟩ := h2
   obtain ⟨e0, he0, ha, hf⟩ := at_tie h.fs.all hx (.held noFile)
   rw [h4] at ha
   obtain ⟨f1, p', c', f2, f3⟩ := hf
   have e2 := ha.trans f2
   injection e2 with e2
   injection e2 with e2
   have e3 := congrArg Array.toList e2
   simp only [List.cons.injEq, Value.slice.injEq, Value.int.injEq, true_and, and_true] at e3
   obtain ⟨⟨g1, g2, g3⟩, g4⟩ := e3
   subst g1 g2 g3 g4
   obtain ⟨e01, e02⟩ := e0
   simp only at f1 ha
   subst f1
   rw [<- ha] at he0
   exact ⟨x, hx, rfl, rfl, he0, f3⟩
theorem Hit.own {w : World} {d N n : Nat} {K : Dk} {S : Nat -> Prop} {mo : Option Nat} {es : List (Lit × DataW Value)} (h : DiskIs w d N K S mo n es) {s : ByteArray} {p : Option Addr} {m c : Nat} {y : Int} {x : Fl} (hh : Hit w s K es p m c y x) :
  ∀ q, (Value.slice p m c).ownBlock = some q -> S q /\ q ≠ d /\ mo ≠ some q /\ ∀ e ∈ es, e.1 ≠ .string s.data.toList -> blk e ≠ some q := by
 intro q hq
 refine ⟨h.eb _ hh.mem q hq, fun e => h.db _ hh.mem (by rw [e] at hq; exact hq), fun e => (h.mb q e).2.2 _ hh.mem hq, fun e he hne h' => ?_⟩
 exact apart_two h.fs.apart e he _ hh.mem (fun e' => hne (by rw [e'])) q h' hq
theorem cells_or {w w1 : World} {d : Nat} {x : Int} (hor : w1 = w \/ w1 = w.setCell ⟨d, 2, none⟩ (.int .i64 x)) : ∀ a : Addr, a.block ≠ d -> w1.cell? a = w.cell? a := fun a ha => by
 rcases hor with rfl | rfl
 ·rfl
 ·exact World.cell?_of_block (Below.heap_setCell _ ⟨d, 2, none⟩ _ a.block ha)
theorem rows_or {w w1 : World} {d : Nat} {x : Int} (hor : w1 = w \/ w1 = w.setCell ⟨d, 2, none⟩ (.int .i64 x)) {B e s n : Nat} {v : Value} {xs : List Value} (h : w.ownsRow B e s v n xs) (hq : ∀ q, v.ownBlock = some q -> q ≠ d) : w1.ownsRow B e s v n xs := by
 rcases hor with rfl | rfl
 ·exact h
 ·exact row_far h (fun q hq' => Below.heap_setCell _ ⟨d, 2, none⟩ _ q (hq q hq'))
def syncA (s : ByteArray) (K : Dk) : Fs := match getF s.data.toList K.A with
 | some x => putF s.data.toList ⟨x.bs, x.bs.length⟩ K.A
 | none => K.A
theorem sync_do (s : ByteArray) (hs : s.size <= maxLen) (p : Option Addr) (c : Nat) (y : Int) (B0 B1 B2 : Nat) {w : World} {d N n : Nat} {K : Dk} {S : Nat -> Prop} {mo : Option Nat} {es : List (Lit × DataW Value)} (h : DiskIs w d N K S mo n es) (hN : N < 1000000) (x : Fl) (hrow : w.ownsRow 0 5 1 (.slice p x.bs.length c) x.bs.length (bcs x.bs))
  (hb : ∀ q, (Value.slice p x.bs.length c).ownBlock = some q -> S q /\ q ≠ d /\ mo ≠ some q /\ ∀ e ∈ es, e.1 ≠ .string s.data.toList -> blk e ≠ some q)
  (k0 : w.cell? ⟨B0, 0, none⟩ = some (.pointer (some ⟨d, 0, none⟩))) (k1 : w.cell? ⟨B1, 0, none⟩ = some (.string s)) (k2 : w.cell? ⟨B2, 0, none⟩ = some (.slice p x.bs.length c)) (k3 : w.cell? ⟨B2, 1, none⟩ = some (.int .i64 y)) :
  Calls Tryz.prog 150 #[.pointer (some ⟨B0, 0, none⟩), .pointer (some ⟨B1, 0, none⟩), .pointer (some ⟨B2, 0, none⟩)] w fun e w' => (∃ v, e = .returned v) /\ ∃ S', DiskOK w' d (N + 1) { K with A := putF s.data.toList ⟨x.bs, x.bs.length⟩ K.A } S' /\ Sep w w' S S' := by
 have HP := hide (put_is h hN s hs p c ⟨x.bs, x.bs.length⟩ hrow hb)
 clear h hrow hb
 go_enter Tryz.func150, Tryz.ntmps150
 go_wp2_with fail
 refine (uh HP).mono ?_
 rintro e w' ⟨⟨r, rfl⟩, h⟩
 have H := hide h
 clear h
 go_wp2_with fail
 go_end0
 exact ⟨⟨_, rfl⟩, uh H⟩
theorem sync_ok {w : World} {d N n : Nat} {K : Dk} {S : Nat -> Prop} {mo : Option Nat} {es : List (Lit × DataW Value)} (h : DiskIs w d N K S mo n es) (hN : N < 1000000) (hf1 : K.fuse <= 9223372036854775807) (s : ByteArray) (hs : s.size <= maxLen) :
  Calls Tryz.prog 42 #[.pointer (some ⟨d, 0, none⟩), .string s] w fun e w' => e = .returned (.int .i64 (chgK K (erF s K) (syncA s K)).2) /\ ∃ S', DiskOK w' d (N + 1) (chgK K (erF s K) (syncA s K)).1 S' /\ Sep w w' S S' := by
 have hdl := h.at'.lt
 have HD := hide h
 obtain ⟨R, hR⟩ : ∃ R, R = chgK K (erF s K) (syncA s K) := ⟨_, rfl⟩
 rw [<- hR]
 have HR := hide hR
 clear h hR
 go_enter Tryz.func42, Tryz.ntmps42
 go_wp2_with fail
 have B0 : Hid (Below w.heap.size w ((w.alloc (.cells #[.pointer (some ⟨d, 0, none⟩)] 26)).alloc (.cells #[.string s] 9))) := bal (bal (Below.refl w.heap.size w) _) _
 refine (find_ok ((uh HD).below (uh B0)) s hs).mono ?_
 rintro e w3 ⟨⟨p, m, c, y, er, rfl, hfo⟩, hb3⟩
 have HFO := hide hfo
 have hz3 := hb3.size
 simp only [World.size_alloc] at hz3
 have k0 : w3.cell? ⟨w.heap.size, 0, none⟩ = some (.pointer (some ⟨d, 0, none⟩)) := (hb3.cell (p := ⟨w.heap.size, 0, none⟩) (by simp; omega)).trans (by simp)
 have k1 : w3.cell? ⟨w.heap.size + 1, 0, none⟩ = some (.string s) := (hb3.cell (p := ⟨w.heap.size + 1, 0, none⟩) (by simp)).trans (by simp)
 have B3 : Hid (Below w.heap.size w w3) := (uh B0).trans (hb3.mono (by simp; omega))
 have HB3 := hide hb3
 have ka0 : ∀ o, (w3.alloc o).cell? ⟨w.heap.size, 0, none⟩ = some (.pointer (some ⟨d, 0, none⟩)) := fun o => keep1 (bal (Below.refl w3.heap.size w3) o) (by omega) k0
 have ka1 : Hid (∀ o, (w3.alloc o).cell? ⟨w.heap.size + 1, 0, none⟩ = some (.string s)) := fun o => keep1 (bal (Below.refl w3.heap.size w3) o) (by omega) k1
 clear hfo hb3
 go_wp2_with fail
 obtain ⟨w4, hw4⟩ : ∃ w4, w4 = w3.alloc (.cells #[.slice p m c, .int .i64 y] 88) := ⟨_, rfl⟩
 have B34 : Hid (Below w3.heap.size w3 w4) := by rw [hw4]; exact bal (Below.refl _ _) _
 have B4 : Hid (Below w.heap.size w w4) := step_below (uh B3) (Nat.le_refl _) (uh B34)
 have q0 : w4.cell? ⟨w.heap.size, 0, none⟩ = some (.pointer (some ⟨d, 0, none⟩)) := by rw [hw4]; exact ka0 _
 have q1 : w4.cell? ⟨w.heap.size + 1, 0, none⟩ = some (.string s) := by rw [hw4]; exact uh ka1 _
 have q2 : w4.cell? ⟨w3.heap.size, 0, none⟩ = some (.slice p m c) := by rw [hw4]; simp
 have q3 : w4.cell? ⟨w3.heap.size, 1, none⟩ = some (.int .i64 y) := by rw [hw4]; simp
 rw [<- hw4]
 clear hw4 ka0
 have hD4 := (uh HD).below (uh B4)
 refine (change_ok hD4 hf1 er (syncA s K) 150 _ (enters_of Tryz.func150 (by kernel_rfl) rfl) ?hdo).mono ?fin
 case hdo =>
  rintro hdn he0 hf0 w1 z hor hD1
  obtain ⟨x, hh⟩ := (uh HFO).2.2 he0
  have hown := hh.own ((uh HD).below (uh B0))
  have hrow4 := own_below (own_below hh.row (uh HB3)) (uh B34)
  have hA : syncA s K = putF s.data.toList ⟨x.bs, x.bs.length⟩ K.A := by unfold syncA; rw [hh.get]
  have hml := hh.len
  subst hml
  rw [hA]
  exact sync_do s hs p c y w.heap.size (w.heap.size + 1) w3.heap.size hD1 hN x (rows_or hor hrow4 (fun q hq => (hown q hq).2.1)) hown ((cells_or hor _ (by show w.heap.size ≠ d; omega)).trans q0) ((cells_or hor _ (by show w.heap.size + 1 ≠ d; omega)).trans q1) ((cells_or hor _ (by show w3.heap.size ≠ d; omega)).trans q2) ((cells_or hor _ (by show w3.heap.size ≠ d; omega)).trans q3)
 case fin =>
  rintro e w5 ⟨rfl, S', hok, hsep⟩
  rw [(uh HFO).1, <- uh HR] at hok ⊢
  have HX : Hid (∃ S', DiskOK w5 d (N + 1) R.1 S' /\ Sep w w5 S S') := ⟨S', hok, (Sep.of_below S (uh B4)).trans hsep⟩
  clear hok hsep
  go_wp2_with fail
  go_ret
  exact ⟨rfl, uh HX⟩
theorem DiskIs.drop {w w' : World} {d N n b : Nat} {K : Dk} {S : Nat -> Prop} {es : List (Lit × DataW Value)} (h : DiskIs w d N K S (some b) n es) (k : List UInt8) (hm : w'.ownsMap Tryz.prog 9 fileElem b n ((DataW.map es).del (.string k))) (hg : w.grownBy w' (some b)) :
  DiskIs w' d N { K with A := delF k K.A } S (some b) n (es.filter fun p => !p.1.sameKey (.string k)) := by
 have hdb := (h.mb b rfl).1
 have hdl := h.at'.lt
 have hblk : w'.heap[d]? = w.heap[d]? := hg.block d hdl (fun e => hdb (Option.some.inj e))
 refine ⟨⟨(World.cell?_of_block (a := ⟨d, 0, none⟩) hblk).trans h.at'.c0, (World.cell?_of_block (a := ⟨d, 1, none⟩) hblk).trans h.at'.c1, (World.cell?_of_block (a := ⟨d, 2, none⟩) hblk).trans h.at'.c2, (World.cell?_of_block (a := ⟨d, 3, none⟩) hblk).trans h.at'.c3, .inr ⟨b, rfl, hm⟩⟩, (h.fs.del k).far (fun e he q hq => hg.block q (h.lt (List.mem_filter.1 he).1 hq) (fun e' => (h.mb b rfl).2.2 e (List.mem_filter.1 he).1 (by rw [hq, e']))), h.nle, fun b' hb' => ⟨(h.mb b' hb').1, (h.mb b' hb').2.1, fun e he => (h.mb b' hb').2.2 e (List.mem_filter.1 he).1⟩, fun e he => h.db e (List.mem_filter.1 he).1, fun e he => h.eb e (List.mem_filter.1 he).1, fun j => (World.frozen?_of_block (a := ⟨d, j, none⟩) hblk).trans (h.fz j), h.sd, fun q hq => Nat.lt_of_lt_of_le (h.sl q hq) hg.size⟩
theorem Sep.map {w w' : World} {S : Nat -> Prop} {b : Nat} (hg : w.grownBy w' (some b)) (hb : S b) : Sep w w' S S := ⟨hg.os, hg.tape, hg.output, hg.size, fun q hq hS => hg.block q hq (fun e => hS (by rw [Option.some.inj e]; exact hb)), fun _ h => .inl h⟩
theorem DiskIs.some_of {w : World} {d N n : Nat} {K : Dk} {S : Nat -> Prop} {mo : Option Nat} {es : List (Lit × DataW Value)} (h : DiskIs w d N K S mo n es) {e : Lit × DataW Value} (he : e ∈ es) : ∃ b, mo = some b /\ w.ownsMap Tryz.prog 9 fileElem b n (.map es) := by
 rcases h.at'.files with ⟨_, h2⟩ | h2
 ·injection h2 with h2
  rw [h2] at he
  cases he
 ·exact h2
theorem remove_do (s : ByteArray) (hs : s.size <= maxLen) (B0 B1 : Nat) {w : World} {d N n b : Nat} {K : Dk} {S : Nat -> Prop} {es : List (Lit × DataW Value)} (h : DiskIs w d N K S (some b) n es) (hm : w.ownsMap Tryz.prog 9 fileElem b n (.map es))
  (k0 : w.cell? ⟨B0, 0, none⟩ = some (.pointer (some ⟨d, 0, none⟩))) (k1 : w.cell? ⟨B1, 0, none⟩ = some (.string s)) :
  Calls Tryz.prog 210 #[.pointer (some ⟨B0, 0, none⟩), .pointer (some ⟨B1, 0, none⟩)] w fun e w' => (∃ v, e = .returned v) /\ ∃ S', DiskOK w' d (N + 1) { K with A := delF s.data.toList K.A } S' /\ Sep w w' S S' := by
 have dc := h.at'.c1
 obtain ⟨w', hrun, hm', hg'⟩ := (hm.drew).drop (t := 83) (e := 88) (Maps.string_keyed Tryz.underlying9) Tryz.underlying83 (key9 hs) 0
 have HM := hide hm'; have HG := hide hg'; have HD := hide h
 clear hm' hg' h hm
 go_enter Tryz.func210, Tryz.ntmps210
 go_wp2_with fail
 go_region
 all_goals go_wp2_with fail
 go_end0
 have hg0 := (uh HG).grown
 have hg : w.grownBy w' (some b) := ⟨hg0.os, hg0.tape, hg0.output, hg0.size, hg0.block⟩
 exact ⟨⟨_, rfl⟩, S, DiskOK.mono ⟨some b, n, _, (uh HD).drop s.data.toList (uh HM) hg⟩ (by omega), Sep.map hg ((uh HD).mb b rfl).2.1⟩
theorem remove_ok {w : World} {d N n : Nat} {K : Dk} {S : Nat -> Prop} {mo : Option Nat} {es : List (Lit × DataW Value)} (h : DiskIs w d N K S mo n es) (hN : N < 1000000) (hf1 : K.fuse <= 9223372036854775807) (s : ByteArray) (hs : s.size <= maxLen) :
  Calls Tryz.prog 104 #[.pointer (some ⟨d, 0, none⟩), .string s] w fun e w' => e = .returned (.int .i64 (chgK K (erF s K) (delF s.data.toList K.A)).2) /\ ∃ S', DiskOK w' d (N + 1) (chgK K (erF s K) (delF s.data.toList K.A)).1 S' /\ Sep w w' S S' := by
 have hdl := h.at'.lt
 have HD := hide h
 obtain ⟨R, hR⟩ : ∃ R, R = chgK K (erF s K) (delF s.data.toList K.A) := ⟨_, rfl⟩
 rw [<- hR]
 have HR := hide hR
 clear h hR
 go_enter Tryz.func104, Tryz.ntmps104
 go_wp2_with fail
 have B0 : Hid (Below w.heap.size w ((w.alloc (.cells #[.pointer (some ⟨d, 0, none⟩)] 26)).alloc (.cells #[.string s] 9))) := bal (bal (Below.refl w.heap.size w) _) _
 refine (find_ok ((uh HD).below (uh B0)) s hs).mono ?_
 rintro e w3 ⟨⟨p, m, c, y, er, rfl, hfo⟩, hb3⟩
 have HFO := hide hfo
 have hz3 := hb3.size
 simp only [World.size_alloc] at hz3
 have k0 : w3.cell? ⟨w.heap.size, 0, none⟩ = some (.pointer (some ⟨d, 0, none⟩)) := (hb3.cell (p := ⟨w.heap.size, 0, none⟩) (by simp; omega)).trans (by simp)
 have k1 : w3.cell? ⟨w.heap.size + 1, 0, none⟩ = some (.string s) := (hb3.cell (p := ⟨w.heap.size + 1, 0, none⟩) (by simp)).trans (by simp)
 have B3 : Hid (Below w.heap.size w w3) := (uh B0).trans (hb3.mono (by simp; omega))
 have HB3 := hide hb3
 have ka0 : ∀ o, (w3.alloc o).cell? ⟨w.heap.size, 0, none⟩ = some (.pointer (some ⟨d, 0, none⟩)) := fun o => keep1 (bal (Below.refl w3.heap.size w3) o) (by omega) k0
 have ka1 : Hid (∀ o, (w3.alloc o).cell? ⟨w.heap.size + 1, 0, none⟩ = some (.string s)) := fun o => keep1 (bal (Below.refl w3.heap.size w3) o) (by omega) k1
 clear hfo hb3
 go_wp2_with fail
 obtain ⟨w4, hw4⟩ : ∃ w4, w4 = w3.alloc (.cells #[.slice p m c, .int .i64 y] 88) := ⟨_, rfl⟩
 have B34 : Hid (Below w3.heap.size w3 w4) := by rw [hw4]; exact bal (Below.refl _ _) _
 have B4 : Hid (Below w.heap.size w w4) := step_below (uh B3) (Nat.le_refl _) (uh B34)
 have q0 : w4.cell? ⟨w.heap.size, 0, none⟩ = some (.pointer (some ⟨d, 0, none⟩)) := by rw [hw4]; exact ka0 _
 have q1 : w4.cell? ⟨w.heap.size + 1, 0, none⟩ = some (.string s) := by rw [hw4]; exact uh ka1 _
 have q2 : w4.cell? ⟨w3.heap.size, 0, none⟩ = some (.slice p m c) := by rw [hw4]; simp
 have q3 : w4.cell? ⟨w3.heap.size, 1, none⟩ = some (.int .i64 y) := by rw [hw4]; simp
 rw [<- hw4]
 clear hw4 ka0
 have hD4 := (uh HD).below (uh B4)
 refine (change_ok hD4 hf1 er (delF s.data.toList K.A) 210 _ (enters_of Tryz.func210 (by kernel_rfl) rfl) ?hdo).mono ?fin
 case hdo =>
  rintro hdn he0 hf0 w1 z hor hD1
  obtain ⟨x, hh⟩ := (uh HFO).2.2 he0
  obtain ⟨b, hmo, hm⟩ := hD1.some_of hh.mem
  subst hmo
  exact remove_do s hs w.heap.size (w.heap.size + 1) hD1 hm ((cells_or hor _ (by show w.heap.size ≠ d; omega)).trans q0) ((cells_or hor _ (by show w.heap.size + 1 ≠ d; omega)).trans q1)
 case fin =>
  rintro e w5 ⟨rfl, S', hok, hsep⟩
  rw [(uh HFO).1, <- uh HR] at hok ⊢
  have HX : Hid (∃ S', DiskOK w5 d (N + 1) R.1 S' /\ Sep w w5 S S') := ⟨S', hok, (Sep.of_below S (uh B4)).trans hsep⟩
  clear hok hsep
  go_wp2_with fail
  go_ret
  exact ⟨rfl, uh HX⟩
def erR (s t : ByteArray) (K : Dk) : Int := if nameS t = false then 32 else erF s K
def renA (s t : ByteArray) (K : Dk) : Fs := match getF s.data.toList K.A with
 | some x => putF t.data.toList x (delF s.data.toList K.A)
 | none => K.A
theorem rename_do (s t : ByteArray) (hs : s.size <= maxLen) (ht : t.size <= maxLen) (p : Option Addr) (c : Nat) (B0 B1 B2 B3 : Nat) {w : World} {d N n b : Nat} {K : Dk} {S : Nat -> Prop} {es : List (Lit × DataW Value)} (h : DiskIs w d N K S (some b) n es) (hN : N < 1000000) (hm : w.ownsMap Tryz.prog 9 fileElem b n (.map es)) (x : Fl) (hrow : w.ownsRow 0 5 1 (.slice p x.bs.length c) x.bs.length (bcs x.bs))
  (hb : ∀ q, (Value.slice p x.bs.length c).ownBlock = some q -> S q /\ q ≠ d /\ some b ≠ some q /\ ∀ e ∈ es, e.1 ≠ .string s.data.toList -> blk e ≠ some q)
  (h0 : B0 ≠ b) (h1 : B1 ≠ b) (h2 : B2 ≠ b) (h3 : B3 ≠ b) (k0 : w.cell? ⟨B0, 0, none⟩ = some (.pointer (some ⟨d, 0, none⟩))) (k1 : w.cell? ⟨B1, 0, none⟩ = some (.string s)) (k2 : w.cell? ⟨B2, 0, none⟩ = some (.string t)) (k3 : w.cell? ⟨B3, 0, none⟩ = some (.slice p x.bs.length c)) (k4 : w.cell? ⟨B3, 1, none⟩ = some (.int .i64 (x.sy : Int))) :
  Calls Tryz.prog 208 #[.pointer (some ⟨B0, 0, none⟩), .pointer (some ⟨B1, 0, none⟩), .pointer (some ⟨B2, 0, none⟩), .pointer (some ⟨B3, 0, none⟩)] w fun e w' => (∃ v, e = .returned v) /\ ∃ S', DiskOK w' d (N + 1) { K with A := putF t.data.toList x (delF s.data.toList K.A) } S' /\ Sep w w' S S' := by
 have dc := h.at'.c1
 obtain ⟨w2, hrun, hm', hg'⟩ := (hm.drew).drop (t := 83) (e := 88) (Maps.string_keyed Tryz.underlying9) Tryz.underlying83 (key9 hs) 0
 have hg0 := hg'.grown
 have hg : w.grownBy w2 (some b) := ⟨hg0.os, hg0.tape, hg0.output, hg0.size, hg0.block⟩
 have hcell : ∀ a : Addr, ∀ v, a.block ≠ b -> w.cell? a = some v -> w2.cell? a = some v := fun a v ha hv => (hg.cell_far a (World.block_lt_of_cell? w a hv) (by simpa using ha)).trans hv
 have e0 := hcell _ _ h0 k0
 have e2 := hcell _ _ h2 k2
 have e3 := hcell _ _ h3 k3
 have e4 := hcell _ _ h3 k4
 have hD2 := h.drop s.data.toList hm' hg
 have HP := hide (put_is hD2 hN t ht p c x (row_far hrow (fun q hq => hg.block q (hrow.lt q hq).2 (fun e => (hb q hq).2.2.1 e.symm))) (fun q hq => ⟨(hb q hq).1, (hb q hq).2.1, (hb q hq).2.2.1, fun e he hne => (hb q hq).2.2.2 e (List.mem_filter.1 he).1 (fun e' => by have h' := (List.mem_filter.1 he).2; rw [e', string_same] at h'; simp at h')⟩))
 have HS : Hid (Sep w w2 S S) := Sep.map hg (h.mb b rfl).2.1
 clear hm' hg' h hm hg0 hg hcell hD2 hrow hb k2 k3 k4
 go_enter Tryz.func208, Tryz.ntmps208
 go_wp2_with fail
 go_region
 all_goals go_wp2_with fail
 all_goals
  refine (uh HP).mono ?_
  rintro e w' ⟨⟨r, rfl⟩, S', h1, h2⟩
  have H : Hid (∃ S', DiskOK w' d (N + 1) { K with A := putF t.data.toList x (delF s.data.toList K.A) } S' /\ Sep w w' S S') := ⟨S', h1, (uh HS).trans h2⟩
  clear h1 h2
  go_wp2_with fail
  go_end0
  exact ⟨⟨_, rfl⟩, uh H⟩
theorem rename_ok {w : World} {d N n : Nat} {K : Dk} {S : Nat -> Prop} {mo : Option Nat} {es : List (Lit × DataW Value)} (h : DiskIs w d N K S mo n es) (hN : N < 1000000) (hf1 : K.fuse <= 9223372036854775807) (s t : ByteArray) (hs : s.size <= maxLen) (ht : t.size <= maxLen) :
  Calls Tryz.prog 102 #[.pointer (some ⟨d, 0, none⟩), .string s, .string t] w fun e w' => e = .returned (.int .i64 (chgK K (erR s t K) (renA s t K)).2) /\ ∃ S', DiskOK w' d (N + 1) (chgK K (erR s t K) (renA s t K)).1 S' /\ Sep w w' S S' := by
 have hdl := h.at'.lt
 have HD := hide h
 obtain ⟨R, hR⟩ : ∃ R, R = chgK K (erR s t K) (renA s t K) := ⟨_, rfl⟩
 rw [<- hR]
 have HR := hide hR
 clear h hR
 have hnm := hide (isName_any t (by unfold maxLen at ht; omega))
 go_enter Tryz.func102, Tryz.ntmps102
 go_wp2_with fail
 have B0 : Hid (Below w.heap.size w (((w.alloc (.cells #[.pointer (some ⟨d, 0, none⟩)] 26)).alloc (.cells #[.string s] 9)).alloc (.cells #[.string t] 9))) := bal (bal (bal (Below.refl w.heap.size w) _) _) _
 refine (find_ok ((uh HD).below (uh B0)) s hs).mono ?_
 rintro e w3 ⟨⟨p, m, c, y, er, rfl, hfo⟩, hb3⟩
 have HFO := hide hfo
 have hz3 := hb3.size
 simp only [World.size_alloc] at hz3
 have j0 : (((w.alloc (.cells #[.pointer (some ⟨d, 0, none⟩)] 26)).alloc (.cells #[.string s] 9)).alloc (.cells #[.string t] 9)).cell? ⟨w.heap.size, 0, none⟩ = some (.pointer (some ⟨d, 0, none⟩)) := (World.cell?_alloc_lt _ _ _ (by simp; omega)).trans ((World.cell?_alloc_lt _ _ _ (by simp)).trans (by rw [World.cell?_alloc_mark]; rfl))
 have j1 : (((w.alloc (.cells #[.pointer (some ⟨d, 0, none⟩)] 26)).alloc (.cells #[.string s] 9)).alloc (.cells #[.string t] 9)).cell? ⟨w.heap.size + 1, 0, none⟩ = some (.string s) := (World.cell?_alloc_lt _ _ _ (by simp)).trans (by have h := World.cell?_alloc_mark (w.alloc (.cells #[.pointer (some ⟨d, 0, none⟩)] 26)) #[.string s] 9 (0, 0) 0; rw [World.size_alloc] at h; exact h)
 have j2 : (((w.alloc (.cells #[.pointer (some ⟨d, 0, none⟩)] 26)).alloc (.cells #[.string s] 9)).alloc (.cells #[.string t] 9)).cell? ⟨w.heap.size + 1 + 1, 0, none⟩ = some (.string t) := by have h := World.cell?_alloc_mark ((w.alloc (.cells #[.pointer (some ⟨d, 0, none⟩)] 26)).alloc (.cells #[.string s] 9)) #[.string t] 9 (0, 0) 0; rw [World.size_alloc, World.size_alloc] at h; exact h
 have k0 : w3.cell? ⟨w.heap.size, 0, none⟩ = some (.pointer (some ⟨d, 0, none⟩)) := keep1 hb3 (by simp; omega) j0
 have k1 : w3.cell? ⟨w.heap.size + 1, 0, none⟩ = some (.string s) := keep1 hb3 (by simp) j1
 have k2 : w3.cell? ⟨w.heap.size + 1 + 1, 0, none⟩ = some (.string t) := keep1 hb3 (by simp) j2
 have B3 : Hid (Below w.heap.size w w3) := (uh B0).trans (hb3.mono (by simp; omega))
 have HB3 := hide hb3
 have ka0 := hide (fun o => keep1 (bal (Below.refl w3.heap.size w3) o) (by omega) k0)
 have ka1 := hide (fun o => keep1 (bal (Below.refl w3.heap.size w3) o) (by omega) k1)
 have ka2 : ∀ o, (w3.alloc o).cell? ⟨w.heap.size + 1 + 1, 0, none⟩ = some (.string t) := fun o => keep1 (bal (Below.refl w3.heap.size w3) o) (by omega) k2
 clear hfo hb3 j0 j1 j2
 go_wp2_with fail
 obtain ⟨w4, hw4⟩ : ∃ w4, w4 = w3.alloc (.cells #[.slice p m c, .int .i64 y] 88) := ⟨_, rfl⟩
 have B34 : Hid (Below w3.heap.size w3 w4) := by rw [hw4]; exact bal (Below.refl _ _) _
 have hz4 : w4.heap.size = w3.heap.size + 1 := by rw [hw4]; simp
 have q0 := hide (show w4.cell? ⟨w.heap.size, 0, none⟩ = some (.pointer (some ⟨d, 0, none⟩)) by rw [hw4]; exact uh ka0 _)
 have q1 := hide (show w4.cell? ⟨w.heap.size + 1, 0, none⟩ = some (.string s) by rw [hw4]; exact uh ka1 _)
 have q2 := hide (show w4.cell? ⟨w.heap.size + 1 + 1, 0, none⟩ = some (.string t) by rw [hw4]; exact ka2 _)
 have q3 := hide (show w4.cell? ⟨w3.heap.size, 0, none⟩ = some (.slice p m c) by rw [hw4]; simp)
 have q4 := hide (show w4.cell? ⟨w3.heap.size, 1, none⟩ = some (.int .i64 y) by rw [hw4]; simp)
 rw [<- hw4]
 clear hw4 ka0 ka1 ka2 k0 k1 k2
 refine (uh hnm w4).mono ?_
 rintro e w5 ⟨rfl, hb5⟩
 have HB5 := hide hb5
 have hz5 := hb5.size
 have B5 : Hid (Below w.heap.size w w5) := step_below (step_below (uh B3) (Nat.le_refl _) (uh B34)) (Nat.le_refl _) hb5
 have r0 := keep1 hb5 (by omega) (uh q0)
 have r1 := keep1 hb5 (by omega) (uh q1)
 have r2 := keep1 hb5 (by omega) (uh q2)
 have r3 := keep1 hb5 (by omega) (uh q3)
 have r4 := keep1 hb5 (by omega) (uh q4)
 clear hb5
 have hD5 := hide ((uh HD).below (uh B5))
 have key : Hid (∀ er', er' = erR s t K -> Calls Tryz.prog 144 #[.pointer (some ⟨d, 0, none⟩), .int .i64 er', .func (.func 208) #[] #[.pointer (some ⟨w.heap.size, 0, none⟩), .pointer (some ⟨w.heap.size + 1, 0, none⟩), .pointer (some ⟨w.heap.size + 1 + 1, 0, none⟩), .pointer (some ⟨w3.heap.size, 0, none⟩)]] w5 fun e w' => e = .returned (.int .i64 R.2) /\ ∃ S', DiskOK w' d (N + 1) R.1 S' /\ Sep w w' S S') := by
  intro er' her
  refine (change_ok (uh hD5) hf1 er' (renA s t K) 208 _ (enters_of Tryz.func208 (by kernel_rfl) rfl) ?hdo).mono ?fin
  case hdo =>
   rintro hdn he0 hf0 w1 z hor hD1
   have hz : er = 0 := by
    rw [(uh HFO).1]
    rw [her] at he0
    unfold erR at he0
    split at he0
    ·omega
    ·exact he0
   obtain ⟨x, hh⟩ := (uh HFO).2.2 hz
   have hown := hh.own ((uh HD).below (uh B0))
   have hrow5 := own_below (own_below (own_below hh.row (uh HB3)) (uh B34)) (uh HB5)
   have hA : renA s t K = putF t.data.toList x (delF s.data.toList K.A) := by unfold renA; rw [hh.get]
   obtain ⟨b, hmo, hm⟩ := hD1.some_of hh.mem
   subst hmo
   have hml := hh.len
   have hsy := hh.syn
   subst hml hsy
   rw [hA]
   have hbl : b < w.heap.size := by
    rcases (uh HD).at'.files with ⟨h1, _⟩ | ⟨b', h1, h2⟩
    ·cases h1
    ·injection h1 with h1
     subst h1
     exact h2.lt
   exact rename_do s t hs ht p c w.heap.size (w.heap.size + 1) (w.heap.size + 1 + 1) w3.heap.size hD1 hN hm x (rows_or hor hrow5 (fun q hq => (hown q hq).2.1)) hown (by omega) (by omega) (by omega) (by omega) ((cells_or hor _ (by show w.heap.size ≠ d; omega)).trans r0) ((cells_or hor _ (by show w.heap.size + 1 ≠ d; omega)).trans r1) ((cells_or hor _ (by show w.heap.size + 1 + 1 ≠ d; omega)).trans r2) ((cells_or hor _ (by show w3.heap.size ≠ d; omega)).trans r3) ((cells_or hor _ (by show w3.heap.size ≠ d; omega)).trans r4)
  case fin =>
   rintro e w6 ⟨rfl, S', hok, hsep⟩
   rw [her, <- uh HR] at hok ⊢
   exact ⟨rfl, S', hok, (Sep.of_below S (uh B5)).trans hsep⟩
 clear r1 r2 r3 r4
 cases hb : nameS t with
 | false =>
  have he : (32 : Int) = erR s t K := by unfold erR; rw [if_pos hb]
  have HK := hide (uh key 32 he)
  clear he
  go_wp2_with fail
  refine (uh HK).mono ?_
  rintro e w6 ⟨rfl, hx⟩
  have HX := hide hx
  clear hx
  go_wp2_with fail
  go_ret
  exact ⟨rfl, uh HX⟩
 | true =>
  have he : er = erR s t K := by unfold erR; rw [if_neg (by rw [hb]; simp)]; exact (uh HFO).1
  have HK := hide (uh key er he)
  clear he
  go_wp2_with fail
  refine (uh HK).mono ?_
  rintro e w6 ⟨rfl, hx⟩
  have HX := hide hx
  clear hx
  go_wp2_with fail
  go_ret
  exact ⟨rfl, uh HX⟩
theorem All2.len {α β : Type} {R : α -> β -> Prop} {l : List α} {m : List β} (h : All2 R l m) : l.length = m.length := by
 induction h with
 | nil => rfl
 | cons _ _ ih => simp [ih]
def whyK (s : ByteArray) (K : Dk) : Int := if nameS s = false then 32 else if (getF s.data.toList K.A).isSome = true then 33 else if 64 <= K.A.length then 2 else 0
theorem why_ok {w : World} {d N n : Nat} {K : Dk} {S : Nat -> Prop} {mo : Option Nat} {es : List (Lit × DataW Value)} (h : DiskIs w d N K S mo n es) (s : ByteArray) (hs : s.size <= maxLen) :
  Calls Tryz.prog 145 #[.pointer (some ⟨d, 0, none⟩), .string s] w fun e w' => e = .returned (.int .i64 (whyK s K)) /\ Below w.heap.size w w' := by
 have hel := h.fs.all.len
 have hdl := h.at'.lt
 have HD := hide h
 clear h
 go_enter Tryz.func145, Tryz.ntmps145
 go_wp2_with fail
 refine (find_ok (uh HD) s hs).mono ?_
 rintro e w1 ⟨⟨p, m, c, y, er, rfl, hfo⟩, hb1⟩
 have he := hfo.1
 have B1 := hide hb1
 have D1 : Hid (DiskIs (w1.alloc (.cells #[.slice p m c, .int .i64 y] 88)) d N K S mo n es) := ((uh HD).below hb1).below (bal (Below.refl w1.heap.size w1) _)
 have B2 : Hid (Below w.heap.size w (w1.alloc (.cells #[.slice p m c, .int .i64 y] 88))) := bal hb1 _
 clear hb1 hfo
 unfold erF at he
 by_cases h1 : nameS s = false
 ·rw [if_pos h1] at he
  subst he
  have hv : whyK s K = 32 := by unfold whyK; rw [if_pos h1]
  go_wp2_with fail
  go_ret
  exact ⟨by rw [hv]; rfl, uh B2⟩
 ·rw [if_neg h1] at he
  by_cases h2 : (getF s.data.toList K.A).isSome = true
  ·rw [if_pos h2] at he
   subst he
   have hv : whyK s K = 33 := by unfold whyK; rw [if_neg h1, if_pos h2]
   go_wp2_with fail
   go_ret
   exact ⟨by rw [hv]; rfl, uh B2⟩
  ·rw [if_neg h2] at he
   subst he
   have dc := (uh D1).at'.c1
   rcases (uh D1).at'.files with ⟨rfl, hes⟩ | ⟨b, rfl, hm⟩
   ·injection hes with hes
    have hv : whyK s K = 0 := by unfold whyK; rw [if_neg h1, if_neg h2, if_neg (by rw [<- hel, hes]; simp)]
    clear hes
    go_wp2_with fail
    go_ret
    exact ⟨by rw [hv]; rfl, uh B2⟩
   ·have HM := hide hm
    have hsz : Maps.size (DataW.map es) = K.A.length := by rw [Maps.size_eq, hel]
    clear hm
    by_cases h64 : 64 <= K.A.length
    ·have hv : whyK s K = 2 := by unfold whyK; rw [if_neg h1, if_neg h2, if_pos h64]
     have i1 : (64 : Int) <= (Maps.size (DataW.map es) : Int) := by rw [hsz]; omega
     go_wp2_with (at_len; refine wpList_len_own _ rfl _ 83 rfl 9 88 Tryz.underlying83 fileElem b n _ rfl (uh HM) ?_)
     go_ret
     exact ⟨by rw [hv]; rfl, uh B2⟩
    ·have hv : whyK s K = 0 := by unfold whyK; rw [if_neg h1, if_neg h2, if_neg h64]
     have i1 : ¬ (64 : Int) <= (Maps.size (DataW.map es) : Int) := by rw [hsz]; omega
     go_wp2_with (at_len; refine wpList_len_own _ rfl _ 83 rfl 9 88 Tryz.underlying83 fileElem b n _ rfl (uh HM) ?_)
     go_ret
     exact ⟨by rw [hv]; rfl, uh B2⟩
def newA (s : ByteArray) (K : Dk) : Fs := putF s.data.toList ⟨[], 0⟩ K.A
theorem create_do (s : ByteArray) (hs : s.size <= maxLen) (B0 B1 : Nat) {w : World} {d N n : Nat} {K : Dk} {S : Nat -> Prop} {mo : Option Nat} {es : List (Lit × DataW Value)} (h : DiskIs w d N K S mo n es) (hN : N < 1000000)
  (k0 : w.cell? ⟨B0, 0, none⟩ = some (.pointer (some ⟨d, 0, none⟩))) (k1 : w.cell? ⟨B1, 0, none⟩ = some (.string s)) :
  Calls Tryz.prog 146 #[.pointer (some ⟨B0, 0, none⟩), .pointer (some ⟨B1, 0, none⟩)] w fun e w' => (∃ v, e = .returned v) /\ ∃ S', DiskOK w' d (N + 1) { K with A := newA s K } S' /\ Sep w w' S S' := by
 have HP := hide (put_is h hN s hs none 0 ⟨[], 0⟩ (World.ownsRow_nil _ _ _ _) (fun q hq => by cases hq))
 clear h
 go_enter Tryz.func146, Tryz.ntmps146
 go_wp2_with fail
 refine (uh HP).mono ?_
 rintro e w' ⟨⟨r, rfl⟩, h⟩
 have H := hide h
 clear h
 go_wp2_with fail
 go_end0
 exact ⟨⟨_, rfl⟩, uh H⟩
theorem create_ok {w : World} {d N n : Nat} {K : Dk} {S : Nat -> Prop} {mo : Option Nat} {es : List (Lit × DataW Value)} (h : DiskIs w d N K S mo n es) (hN : N < 1000000) (hf1 : K.fuse <= 9223372036854775807) (s : ByteArray) (hs : s.size <= maxLen) :
  Calls Tryz.prog 40 #[.pointer (some ⟨d, 0, none⟩), .string s] w fun e w' => e = .returned (.int .i64 (chgK K (whyK s K) (newA s K)).2) /\ ∃ S', DiskOK w' d (N + 1) (chgK K (whyK s K) (newA s K)).1 S' /\ Sep w w' S S' := by
 have hdl := h.at'.lt
 have HD := hide h
 obtain ⟨R, hR⟩ : ∃ R, R = chgK K (whyK s K) (newA s K) := ⟨_, rfl⟩
 rw [<- hR]
 have HR := hide hR
 clear h hR
 obtain ⟨w2, hw2⟩ : ∃ w2, w2 = ((w.alloc (.cells #[.pointer (some ⟨d, 0, none⟩)] 26)).alloc (.cells #[.string s] 9)).drew := ⟨_, rfl⟩
 have B2 : Hid (Below w.heap.size w w2) := by rw [hw2]; exact below_drewN (bal (bal (Below.refl w.heap.size w) _) _) 1
 have hz2 : w2.heap.size = w.heap.size + 1 + 1 := by rw [hw2]; simp
 have k0 : w2.cell? ⟨w.heap.size, 0, none⟩ = some (.pointer (some ⟨d, 0, none⟩)) := by rw [hw2]; simp
 have k1 : w2.cell? ⟨w.heap.size + 1, 0, none⟩ = some (.string s) := by rw [hw2]; simp
 have HC := hide (why_ok ((uh HD).below (uh B2)) s hs)
 have HX : Hid (∀ w3, Below w2.heap.size w2 w3 -> Calls Tryz.prog 144 #[.pointer (some ⟨d, 0, none⟩), .int .i64 (whyK s K), .func (.func 146) #[] #[.pointer (some ⟨w.heap.size, 0, none⟩), .pointer (some ⟨w.heap.size + 1, 0, none⟩)]] w3 fun e w' => e = .returned (.int .i64 R.2) /\ (∃ S', DiskOK w' d (N + 1) R.1 S' /\ Sep w w' S S') /\ w'.cell? ⟨w.heap.size, 0, none⟩ = some (.pointer (some ⟨d, 0, none⟩)) /\ w'.cell? ⟨w.heap.size + 1, 0, none⟩ = some (.string s)) := by
  intro w3 hb3
  have B3 : Below w.heap.size w w3 := (uh B2).trans (hb3.mono (by omega))
  have q0 := keep1 hb3 (by omega) k0
  have q1 := keep1 hb3 (by omega) k1
  refine (change_ok ((uh HD).below B3) hf1 (whyK s K) (newA s K) 146 _ (enters_of Tryz.func146 (by kernel_rfl) rfl) ?hdo).mono ?fin
  case hdo =>
   rintro hdn he0 hf0 w1 z hor hD1
   exact create_do s hs w.heap.size (w.heap.size + 1) hD1 hN ((cells_or hor _ (by show w.heap.size ≠ d; omega)).trans q0) ((cells_or hor _ (by show w.heap.size + 1 ≠ d; omega)).trans q1)
  case fin =>
   rintro e w5 ⟨rfl, S', hok, hsep⟩
   rw [<- uh HR] at hok ⊢
   have hz3 := hb3.size
   exact ⟨rfl, ⟨S', hok, (Sep.of_below S B3).trans hsep⟩, (World.cell?_of_block (a := ⟨w.heap.size, 0, none⟩) (hsep.block _ (by show w.heap.size < _; omega) (fun h' => by have : w.heap.size < w.heap.size := (uh HD).sl _ h'; omega))).trans q0, (World.cell?_of_block (a := ⟨w.heap.size + 1, 0, none⟩) (hsep.block _ (by show w.heap.size + 1 < _; omega) (fun h' => by have : w.heap.size + 1 < w.heap.size := (uh HD).sl _ h'; omega))).trans q1⟩
 rw [hw2] at HC HX
 have kk := hide (And.intro k0 k1)
 rw [hw2] at kk
 clear k0 k1
 go_enter Tryz.func40, Tryz.ntmps40
 go_wp2_with fail
 go_region_held3 (fun W => W.cell? ⟨w.heap.size, 0, none⟩ = some (.pointer (some ⟨d, 0, none⟩)) /\ W.cell? ⟨w.heap.size + 1, 0, none⟩ = some (.string s)) (first | (refine ⟨?_, ?_⟩ <;> with_reducible assumption) | go_keep)
  (first
  | (go_at_call 145; refine (uh HC).mono ?_; rintro e w3 ⟨rfl, hb3⟩; have HB3 := hide hb3; have ka := keep1 hb3 (by simp; omega) (uh kk).1; have kb := keep1 hb3 (by simp) (uh kk).2; clear hb3)
  | (go_at_call 144; refine (uh HX w3 (uh HB3)).mono ?_; rintro e w5 ⟨rfl, hres, kc, kd⟩; have HRES := hide hres; clear hres))
 all_goals go_wp2_with fail
 all_goals go_ret
 all_goals exact ⟨rfl, uh HRES⟩
end Go.Proofs.YtpeohbkigkfcgaaGreatDoor
namespace Go.Proofs.YtpeohbkigkfcgaaGreatDoor
open Go Go.Shelf Go.ChangeShapes Go.WideShapes Go.ChangeAt Go.RowKit Go.Maps Go.Sort
def totF (A : Fs) : Nat := (A.map fun p => p.2.bs.length).sum
def lenF (A : Fs) (x : List UInt8) : Nat := match getF x A with
 | some f => f.bs.length
 | none => 0
theorem keys_tie {W : World} {es : List (Lit × DataW Value)} {A : Fs} (h : All2 (FileAt W) es A) : strKeys (DataW.map es) = A.map (·.1) := by
 show es.map (fun p => strOf p.1) = _
 induction h with
 | nil => rfl
 | cons h1 _ ih => rw [List.map_cons, List.map_cons, ih, h1.1]; rfl
theorem len_own : ∀ (A : Fs), (A.map (·.1)).Nodup -> ((A.map (·.1)).map (lenF A)).sum = totF A
 | [], _ => rfl
 | a :: A, h => by
  rw [List.map_cons, List.nodup_cons] at h
  have h1 : lenF (a :: A) a.1 = a.2.bs.length := by simp [lenF, getF]
  have h2 : ∀ x ∈ A.map (·.1), lenF (a :: A) x = lenF A x := fun x hx => by
   have hne : (a.1 == x) = false := by
    rw [beq_eq_false_iff_ne]
    intro e
    exact h.1 (by rw [e]; exact hx)
   simp [lenF, getF, hne]
  rw [List.map_cons, List.map_cons, List.sum_cons, h1, List.map_congr_left h2, len_own A h.2]
  simp [totF]
theorem sum_perm {l m : List (List UInt8)} (A : Fs) (h : l.Perm m) : (l.map (lenF A)).sum = (m.map (lenF A)).sum := by
 induction h with
 | nil => rfl
 | cons x _ ih => simp [ih]
 | swap x y l => simp only [List.map_cons, List.sum_cons]; omega
 | trans _ _ h1 h2 => exact h1.trans h2
theorem sum_sub (f : List UInt8 -> Nat) : ∀ (l m : List (List UInt8)), l.Nodup -> (∀ x ∈ l, x ∈ m) -> (l.map f).sum <= (m.map f).sum
 | [], _, _, _ => by simp
 | x :: l, m, hn, hs => by
  rw [List.nodup_cons] at hn
  have hx := hs x (List.mem_cons_self ..)
  have h1 := sum_sub f l (m.erase x) hn.2 (fun y hy => (List.mem_erase_of_ne (fun e => hn.1 (by rw [<- e]; exact hy))).2 (hs y (List.mem_cons_of_mem _ hy)))
  have h2 : (m.map f).sum = f x + ((m.erase x).map f).sum := by
   have hp := (List.perm_cons_erase hx).map f
   rw [hp.sum_nat]
   simp
  rw [h2, List.map_cons, List.sum_cons]
  omega
theorem sum_snoc (f : List UInt8 -> Nat) (l : List (List UInt8)) (x : List UInt8) : ((l ++ [x]).map f).sum = (l.map f).sum + f x := by simp
theorem free_ok {w : World} {d N n : Nat} {K : Dk} {S : Nat -> Prop} {mo : Option Nat} {es : List (Lit × DataW Value)} (h : DiskIs w d N K S mo n es) (hc : K.cap <= 1048576) (hc0 : 0 <= K.cap) (ht : totF K.A <= 1048576) :
  Calls Tryz.prog 46 #[.pointer (some ⟨d, 0, none⟩)] w fun e w' => e = .returned (.int .i64 (K.cap - (totF K.A : Int))) /\ Below w.heap.size w w' := by
 have c0 := h.at'.c0
 have c1 := h.at'.c1
 have HD := hide h
 rcases h.at'.files with ⟨rfl, hes⟩ | ⟨b, rfl, hm⟩
 ·injection hes with hes
  subst hes
  have hA : totF K.A = 0 := by
   have hl := h.fs.all.len
   have : K.A = [] := List.eq_nil_of_length_eq_zero (by rw [<- hl]; rfl)
   rw [this]; rfl
  rw [hA]
  clear h
  have hrn := run_range_nilMap (P := Tryz.prog) w 83 9 88 Tryz.underlying83
  have hnx : ∀ ty, (Instr.next (.pointer (some ⟨w.heap.size, 0, none⟩)) false ty).run Tryz.prog (w.alloc (.mapIter none 0 #[] 0)) = _ := fun ty => run_next_nilMap w ty 0 0 #[]
  go_enter Tryz.func46, Tryz.ntmps46
  go_wp2_with fail
  refine wp_loop_once ?_
  go_wp2_with fail
  go_ret
  exact ⟨by simp, (Below.refl _ w).alloc (Nat.le_refl _) _⟩
 ·have HM := hide hm
  have hnd : Hid ((K.A.map (·.1)).Nodup) := by
   have ht := hm.tidy (Maps.string_keyed Tryz.underlying9)
   obtain ⟨es', he, hp⟩ := ht
   injection he with he
   subst he
   rw [<- keys_tie h.fs.all]
   show (es.map fun p => strOf p.1).Nodup
   have hk := h.fs.all
   clear h hm HM HD c0 c1 ht hc hc0
   generalize K.A = A0 at hk
   induction hk with
   | nil => exact List.nodup_nil
   | cons h1 hr ih =>
    rename_i e a es A
    rw [List.pairwise_cons] at hp
    rw [List.map_cons, List.nodup_cons]
    refine ⟨fun hm => ?_, ih hp.2⟩
    obtain ⟨e', he', heq⟩ := List.mem_map.1 hm
    obtain ⟨a', _, ha'⟩ := all_mem hr e' he'
    refine hp.1 e' he' ?_
    rw [h1.1, ha'.1]
    rw [h1.1, ha'.1] at heq
    simp only [strOf] at heq
    rw [heq]
  have HK := hide (keys_tie h.fs.all)
  have hat : Hid (∀ x v, (∀ z, (DataW.map es).atKey (.string x) z = DataW.held v) -> ∀ p m c y, v = .agg #[.slice p m c, .int .i64 y] -> m = lenF K.A x) := by
   intro x v hz p m c y hv
   have hh := Maps.has_true_of_atKey hz
   rw [has_tie h.fs.all, Option.isSome_iff_exists] at hh
   obtain ⟨f, hf⟩ := hh
   obtain ⟨e0, he0, ha, hfa⟩ := at_tie h.fs.all hf (.held noFile)
   rw [hz] at ha
   obtain ⟨_, p', c', f2, _⟩ := hfa
   have e2 := ha.trans f2
   injection e2 with e2
   rw [hv] at e2
   injection e2 with e2
   have e3 := congrArg Array.toList e2
   simp only [List.cons.injEq, Value.slice.injEq] at e3
   rw [e3.1.2.1]
   simp [lenF, hf]
  clear hm h
  go_enter Tryz.func46, Tryz.ntmps46
  go_wp2_with (at_range; refine wpList_range_own _ rfl _ 83 rfl 9 88 (Maps.string_keyed Tryz.underlying9) Tryz.underlying83 fileElem b n _ rfl (uh HM) ?_; intro w0 hrg0 hg0 hs0)
  go_frame
  go_loopw [3] (fun v wr => ∃ (left : Lit -> Bool) (cnt : Nat) (ss : List (List UInt8)), wr.ranges Tryz.prog 9 fileElem b w.heap.size n (.map es) left cnt /\ Collected (.map es) left ss /\ (ss.map (lenF K.A)).sum <= totF K.A /\ v = .int .i64 (K.cap - (((ss.map (lenF K.A)).sum : Nat) : Int)) /\ Below w.heap.size w wr) (fun _ wr => wr.rangeLeft b w.heap.size)
  case atStart => exact ⟨_, _, [], hrg0, Collected.start _, by simp, by simp, below_of_grown hg0⟩
  case round =>
   obtain ⟨left, cnt, ss, hrg, hC, hle, rfl, hb⟩ := hrel
   obtain ⟨X, hX⟩ : ∃ X : Int, X = K.cap - (((ss.map (lenF K.A)).sum : Nat) : Int) := ⟨_, rfl⟩
   have HX := hide hX
   have HRG := hide hrg; have HC := hide hC; have HB := hide hb; have HLE := hide hle
   rw [<- hX]
   have hX1 : X <= 1048576 := by omega
   have hX0 : -1048576 <= X := by omega
   clear hX hC hb hle
   go_wp2_with (at_next; refine wpList_next_ranges _ rfl _ rfl 9 (Maps.string_keyed Tryz.underlying9) fileElem encStr (fun c : Option Addr × Nat × Nat × Int => .agg #[.slice c.1 c.2.1 c.2.2.1, .int .i64 c.2.2.2]) (fun key kl hk => by obtain ⟨x, hx, _⟩ := Maps.keyOf_str Tryz.underlying9 hk; exact ⟨x, hx⟩) (fun v y hv => by obtain ⟨p, m, c, y', h1, _⟩ := fileElem_inv hv; exact ⟨(p, m, c, y'), h1⟩) b w.heap.size n _ _ _ rfl hrg ?_ ?_)
   ·intro hc0 hl0
    go_wp2_with fail
    go_ret
    have e1 := (uh HC).perm (uh HM) (Maps.string_keyed Tryz.underlying9) Tryz.underlying9 hl0
    have e2 : (ss.map (lenF K.A)).sum = totF K.A := by rw [sum_perm K.A e1, uh HK, len_own _ (uh hnd)]
    refine ⟨?_, uh HB⟩
    rw [uh HX, e2]
    rfl
   ·intro x p m c y kl yd yp w2 cnt2 hkey hlk hv hat2 hrg2 hlt hg2 hs2 hen
    obtain ⟨x', ex, rfl, hxl⟩ := Maps.keyOf_str Tryz.underlying9 hkey
    have ex := encStr_inj ex
    subst ex
    rw [fileElem_mk] at hv
    injection hv with hv
    injection hv with hv1 hv2
    subst hv1
    have hm1 := uh hat x _ hat2 p m c y rfl
    have HC2 := hide ((uh HC).step hlk hat2)
    have hle2 : ((ss ++ [x]).map (lenF K.A)).sum <= totF K.A := by
     rw [<- len_own _ (uh hnd)]
     refine sum_sub _ _ _ (uh HC2).1 (fun z hz => ?_)
     have h1 := ((uh HC2).2 z).1 hz
     have h2 := h1.1
     rw [has_tie (uh HD).fs.all, Option.isSome_iff_exists] at h2
     obtain ⟨f, hf⟩ := h2
     obtain ⟨e0, he0, _, hfa⟩ := at_tie (uh HD).fs.all hf (.held noFile)
     rw [<- uh HK]
     show z ∈ es.map (fun p => strOf p.1)
     exact List.mem_map.2 ⟨e0, he0, by rw [hfa.1]; rfl⟩
    have HLE2 := hide hle2
    have hsum := sum_snoc (lenF K.A) ss x
    have HS := hide hsum
    have hm2 : m <= 1048576 := by rw [hm1]; omega
    have HM1 := hide hm1
    have hm3 : (0 : Int) <= (m : Int) := by omega
    clear hm1 hle2 hsum hkey hlk hat2 hv2 hxl
    go_wp2_with fail
    have hrg3 := hrg2.alloc (Obj.cells #[.slice p m c, .int .i64 y] 88)
    refine ⟨⟨_, _, ss ++ [x], hrg3, uh HC2, uh HLE2, ?_, ?_⟩, ?_⟩
    ·have h1 := uh HX; have h2 := uh HS; have h3 := uh HM1
     rw [h2]
     congr 1
     omega
    ·have hB := uh HB
     have h1 : Below w.heap.size wr w2 := ⟨hg2.os, hg2.tape, hg2.output, hg2.size, fun q hq => hg2.block q (by have := hB.size; omega) (by simp; omega)⟩
     exact (hB.trans h1).alloc (by have := hB.size; have := hg2.size; omega) _
    ·rw [hrg3.left_eq, (uh HRG).left_eq]
     exact hlt
end Go.Proofs.YtpeohbkigkfcgaaGreatDoor
namespace Go.Proofs.YtpeohbkigkfcgaaGreatDoor
open Go Go.Shelf Go.ChangeShapes Go.WideShapes Go.ChangeAt Go.RowKit
def BytesAt (W : World) (u : Value) (bs : List UInt8) : Prop :=
 (u = .slice none 0 0 /\ bs = []) \/ ∃ b off c, u = .slice (some ⟨b, off, none⟩) bs.length c /\ ∀ j u, (bcs bs)[j]? = some u -> W.cell? ⟨b, off + j, none⟩ = some u
theorem BytesAt.far {W W' : World} {u : Value} {bs : List UInt8} (h : BytesAt W u bs) (hq : ∀ q, u.ownBlock = some q -> W'.heap[q]? = W.heap[q]?) : BytesAt W' u bs := by
 rcases h with h | ⟨b, off, c, rfl, h⟩
 ·exact .inl h
 ·exact .inr ⟨b, off, c, rfl, fun j u hj => (World.cell?_of_block (a := ⟨b, off + j, none⟩) (hq b rfl)).trans (h j u hj)⟩
theorem BytesAt.of_row {W : World} {base : Nat} {v : Value} {bs : List UInt8} (h : W.ownsRow base 5 1 v bs.length (bcs bs)) : BytesAt W v bs := by
 rcases h.2 with ⟨h1, h2⟩ | ⟨g, cap, cur, rfl, rest⟩
 ·exact .inl ⟨h1, List.eq_nil_of_length_eq_zero h2⟩
 ·exact .inr ⟨g, 0, cap, rfl, fun j u hj => by have := h.cells (g := g) rfl j u hj; rw [Addr.add_mid] at this; exact this⟩
theorem row_cut {w' : World} {base g n m cap : Nat} {xs ys : List Value} (hl : xs.length = n) (h : w'.ownsRow base 5 1 (.slice (some ⟨g, 0, none⟩) (n + m) cap) (n + m) (xs ++ ys)) : w'.ownsRow base 5 1 (.slice (some ⟨g, 0, none⟩) n cap) n xs := by
 refine ⟨by omega, .inr ?_⟩
 rcases h.2 with ⟨h1, _⟩ | ⟨g', cap', cur, he, hb, hc, h1, h2, h3, h4⟩
 ·cases h1
 ·simp only [Value.slice.injEq, Option.some.injEq, Addr.mk.injEq, true_and, and_true] at he
  obtain ⟨rfl, rfl⟩ := he
  refine ⟨g, cap, cur, rfl, hb, hc, by omega, h2, h3, ?_⟩
  rw [Nat.mul_one] at h4 ⊢
  have h5 : cur.toList.take n = (cur.toList.take (n + m)).take n := by rw [List.take_take]; congr 1; omega
  rw [h5, h4, List.take_append_of_le_length (by omega), List.take_of_length_le (by omega)]
theorem run_append_b (w : World) (ty : TypeId) (v : Value) (bs : List UInt8) (hown : w.ownsRow 0 5 1 v bs.length (bcs bs)) (u : Value) (b2 : List UInt8) (hu : BytesAt w u b2) (hb : bs.length + b2.length <= 140737488351232) :
  ∃ p c w', (Builtin.append_ #[55, 55] ty #[v, u]).run Tryz.prog w = .ok (.slice p (bs ++ b2).length c) w' /\ w'.ownsRow 0 5 1 (.slice p (bs ++ b2).length c) (bs ++ b2).length (bcs (bs ++ b2)) /\ w'.ownsRow 0 5 1 v bs.length (bcs bs) /\
   (((Value.slice p (bs ++ b2).length c).ownBlock = v.ownBlock /\ w.grownBy w' v.ownBlock) \/ ((Value.slice p (bs ++ b2).length c).ownBlock = some w.heap.size /\ w.grownBy w' none)) := by
 obtain ⟨i, hi, hz, hsize, hby⟩ := info_parts info5
 rcases hu with ⟨rfl, rfl⟩ | ⟨b, off, c, rfl, hcell⟩
 ·have hr := run_append_owned_none (P := Tryz.prog) (w := w) 0 55 ty 5 i 1 Tryz.underlying55 hi v bs.length _ hown
  have hv : ∃ p c, v = .slice p bs.length c := by
   rcases hown.2 with ⟨h1, h2⟩ | ⟨g, cap, cur, rfl, _⟩
   ·exact ⟨none, 0, by rw [h1, h2]⟩
   ·exact ⟨_, _, rfl⟩
  obtain ⟨p, c, rfl⟩ := hv
  rw [List.append_nil]
  exact ⟨p, c, w, hr, hown, hown, .inl ⟨rfl, ⟨rfl, rfl, rfl, Nat.le_refl _, fun _ _ _ => rfl⟩⟩⟩
 ·have hnews : ∀ j u, (bcs b2)[j]? = some u -> w.cell? ((⟨b, off, none⟩ : Addr).add j) = some u := fun j u hj => by rw [Addr.add_mid]; exact hcell j u hj
  rw [List.length_append, bcs_append]
  obtain ⟨v', w', hr, ho, hg, hnil, hat⟩ := run_append_own_at (P := Tryz.prog) w 0 55 ty 5 i (.int .u8 0) 1 1 Tryz.underlying55 hi hz hsize hby rfl (by decide) v bs.length _ hown ⟨b, off, none⟩ b2.length c (bcs b2) (by rw [bcs_len]; omega) hnews (bcs_one _) (by unfold maxLen; omega) (by omega) (by omega)
  have hv : ∃ p c, v' = .slice p (bs.length + b2.length) c := by
   rcases ho.2 with ⟨h1, h2⟩ | ⟨g, cap, cur, rfl, _⟩
   ·exact ⟨none, 0, by rw [h1, h2]⟩
   ·exact ⟨_, _, rfl⟩
  obtain ⟨p', c', rfl⟩ := hv
  rcases hown.2 with ⟨rfl, h0⟩ | ⟨g0, cap0, cur, rfl, hb0, hcur, hnc, hcm, hcs, htake⟩
  ·refine ⟨p', c', w', hr, ho, ?_, hat.imp (fun h => ⟨h, hg⟩) (fun h => ⟨h, hg⟩)⟩
   have : bs = [] := List.eq_nil_of_length_eq_zero h0
   subst this
   exact World.ownsRow_nil _ _ _ _
  ·by_cases hf : bs.length + b2.length <= cap0
   ·obtain ⟨w2, hr3, ho3, hg3⟩ := run_append_fits (P := Tryz.prog) w 0 55 ty 5 i 1 Tryz.underlying55 hi hsize g0 bs.length cap0 _ hown ⟨b, off, none⟩ b2.length c (bcs b2) (by rw [bcs_len]; omega) hnews (bcs_one _) hf
    exact ⟨_, _, w2, hr3, ho3, row_cut (bcs_len bs) ho3, .inl ⟨rfl, hg3⟩⟩
   ·have hr2 := run_append_grow (P := Tryz.prog) w 55 ty 5 i (.int .u8 0) Tryz.underlying55 hi hz ⟨g0, 0, none⟩ bs.length cap0 (bcs bs) (by rw [hsize, bcs_len]; omega) (hown.cells (g := g0) rfl) ⟨b, off, none⟩ b2.length c (bcs b2) (by rw [hsize, bcs_len]; omega) hnews (by omega) (by omega) (by rw [hby]; exact growslice_fits (by omega) (by omega))
    have hr4 := hr
    rw [hr2] at hr4
    injection hr4 with e1 e2
    have hg2 : w.grownBy w' none := by
     rw [<- e2]
     exact ⟨rfl, rfl, rfl, by simp, fun k hk _ => Below.heap_alloc _ _ _ hk⟩
    refine ⟨p', c', w', hr, ho, own_below hown (below_of_grown hg2), .inr ⟨?_, hg2⟩⟩
    rw [<- e1]
    rfl
theorem step_append_b {ops : Array Oper} {o : Oper} {a : Act} {K : Act -> World -> Prop} {Q : Exit -> Act -> World -> Prop} {E : Prop} (w : World) (hgd : o.guard = none) (s x : Operand)
  (ho : o.op = .call { callee := .builtin .append, args := #[s, x], argTypes := #[55, 55] })
  (v : Value) (bs : List UInt8) (hs : a.eval s = v) (hown : w.ownsRow 0 5 1 v bs.length (bcs bs)) (u : Value) (b2 : List UInt8) (hx : a.eval x = u) (hu : BytesAt w u b2) (hb : bs.length + b2.length <= 140737488351232) (b3 : List UInt8) (hb3 : b3 = bs ++ b2)
  (h : ∀ p c w', w'.ownsRow 0 5 1 (.slice p b3.length c) b3.length (bcs b3) -> w'.ownsRow 0 5 1 v bs.length (bcs bs) -> (((Value.slice p b3.length c).ownBlock = v.ownBlock /\ w.grownBy w' v.ownBlock) \/ ((Value.slice p b3.length c).ownBlock = some w.heap.size /\ w.grownBy w' none)) -> K (a.put o.dst (.slice p b3.length c)) w') :
  if Region.wanted o (yielded ops a.tmps) = true then Oper.wp Tryz.prog o a w K Q else E := by
 subst hb3
 have hw : Region.wanted o (yielded ops a.tmps) = true := by simp [Region.wanted, hgd]
 rw [if_pos hw]
 obtain ⟨p, c, w', hr, h2, h3, h4⟩ := run_append_b w o.type v bs hown u b2 hu hb
 unfold Oper.wp execOp
 simp only [ho, resolve, invoke, builtin, Sem.run_bind, Sem.run_pure, Result.andThen_ok, List.map_toArray, List.map_cons, List.map_nil, hs, hx, hr]
 exact h p c w' h2 h3 h4
theorem All2.imp_mem {α β : Type} {R R' : α -> β -> Prop} {l : List α} {m : List β} (h : All2 R l m) : (∀ e ∈ l, ∀ a, R e a -> R' e a) -> All2 R' l m := by
 induction h with
 | nil => intro _; exact .nil
 | cons h1 _ ih => intro hi; exact .cons (hi _ (by simp) _ h1) (ih (fun e he => hi e (by simp [he])))
theorem DiskIs.grows {w w' : World} {d N n : Nat} {K : Dk} {S : Nat -> Prop} {mo : Option Nat} {es : List (Lit × DataW Value)} (h : DiskIs w d N K S mo n es) {s : ByteArray} {p : Option Addr} {m c : Nat} {y : Int} {x : Fl} (hh : Hit w s K es p m c y x) (v' : Value) {k : Nat} {xs : List Value} (hrow' : w'.ownsRow 0 5 1 v' k xs) (hold : w'.ownsRow 0 5 1 (.slice p m c) m (bcs x.bs))
  (hg : ((v'.ownBlock = (Value.slice p m c).ownBlock /\ w.grownBy w' (Value.slice p m c).ownBlock) \/ (v'.ownBlock = some w.heap.size /\ w.grownBy w' none))) :
  DiskIs w' d N K (fun q => S q \/ v'.ownBlock = some q) mo n es /\ Sep w w' S (fun q => S q \/ v'.ownBlock = some q) /\ (∀ q, v'.ownBlock = some q -> (S q \/ v'.ownBlock = some q) /\ q ≠ d /\ mo ≠ some q /\ ∀ e ∈ es, e.1 ≠ .string s.data.toList -> blk e ≠ some q) := by
 have hown := hh.own h
 have hdl := h.at'.lt
 have hgr : w.grownBy w' (Value.slice p m c).ownBlock := hg.elim (·.2) (fun h2 => ⟨h2.2.os, h2.2.tape, h2.2.output, h2.2.size, fun k hk _ => h2.2.block k hk (by simp)⟩)
 have hkeep : ∀ q, q < w.heap.size -> (Value.slice p m c).ownBlock ≠ some q -> w'.heap[q]? = w.heap[q]? := fun q hq hne => hgr.block q hq (fun e => hne e.symm)
 have hblk : w'.heap[d]? = w.heap[d]? := hkeep d hdl (fun e => (hown d e).2.1 rfl)
 have hmb : ∀ b, mo = some b -> b < w.heap.size := fun b hb => h.sl b (h.mb b hb).2.1
 have hfiles : (mo = none /\ DataW.map es = .map []) \/ ∃ b, mo = some b /\ w'.ownsMap Tryz.prog 9 fileElem b n (.map es) := by
  rcases h.at'.files with h1 | ⟨b, h1, h2⟩
  ·exact .inl h1
  ·exact .inr ⟨b, h1, h2.kept hgr (fun e => (hown b e.symm).2.2.1 h1)⟩
 have hall : All2 (FileAt w') es K.A := by
  have hfa : ∀ e ∈ es, ∀ a, FileAt w e a -> FileAt w' e a := by
   intro e he a ha
   by_cases hq : ∃ q, blk e = some q /\ (Value.slice p m c).ownBlock = some q
   ·obtain ⟨q, hq1, hq2⟩ := hq
    have hee : e = (Lit.string s.data.toList, DataW.held (.agg #[.slice p m c, .int .i64 y])) := by
     refine Classical.byContradiction fun hne => ?_
     exact apart_two h.fs.apart e he _ hh.mem hne q hq1 hq2
    subst hee
    obtain ⟨f1, p', c', f2, f3⟩ := ha
    refine ⟨f1, p', c', f2, ?_⟩
    simp only [DataW.held.injEq, Value.agg.injEq] at f2
    have e3 := congrArg Array.toList f2
    simp only [List.cons.injEq, Value.slice.injEq, Value.int.injEq, true_and, and_true] at e3
    obtain ⟨⟨g1, g2, g3⟩, g4⟩ := e3
    subst g1 g2 g3
    have hc1 : bcs a.2.bs = bcs x.bs := by
     rcases f3.2 with ⟨_, h0⟩ | ⟨g, cap, cur, he1, _, hc1, _, _, _, ht1⟩
     ·have h01 : a.2.bs = [] := List.eq_nil_of_length_eq_zero h0
      have h02 : x.bs = [] := List.eq_nil_of_length_eq_zero (by rw [<- hh.len, h0])
      rw [h01, h02]
     ·rcases hh.row.2 with ⟨h1, _⟩ | ⟨g', cap', cur', he2, _, hc2, _, _, _, ht2⟩
      ·rw [h1] at hq2; cases hq2
      ·rw [he1] at he2
       simp only [Value.slice.injEq, Option.some.injEq, Addr.mk.injEq, true_and, and_true] at he2
       obtain ⟨rfl, _⟩ := he2
       rw [hc1] at hc2
       injection hc2 with hc2
       injection hc2 with hc2
       subst hc2
       rw [<- ht1, <- ht2]
    rw [hc1]
    exact hold
   ·refine ha.far (fun q hq' => hkeep q (ha.lt hq') (fun e2 => hq ⟨q, hq', e2⟩))
  exact h.fs.all.imp_mem hfa
 have hv'l : ∀ q, v'.ownBlock = some q -> q < w'.heap.size := fun q hq => (hrow'.lt q hq).2
 refine ⟨⟨⟨(World.cell?_of_block (a := ⟨d, 0, none⟩) hblk).trans h.at'.c0, (World.cell?_of_block (a := ⟨d, 1, none⟩) hblk).trans h.at'.c1, (World.cell?_of_block (a := ⟨d, 2, none⟩) hblk).trans h.at'.c2, (World.cell?_of_block (a := ⟨d, 3, none⟩) hblk).trans h.at'.c3, hfiles⟩, ⟨hall, h.fs.apart⟩, h.nle, fun b hb => ⟨(h.mb b hb).1, .inl (h.mb b hb).2.1, (h.mb b hb).2.2⟩, h.db, fun e he q hq => .inl (h.eb e he q hq), fun j => (World.frozen?_of_block (a := ⟨d, j, none⟩) hblk).trans (h.fz j), .inl h.sd, fun q hq => hq.elim (fun h' => Nat.lt_of_lt_of_le (h.sl q h') hgr.size) (hv'l q)⟩, ⟨hgr.os, hgr.tape, hgr.output, hgr.size, fun q hq hS => hkeep q hq (fun e => hS (hown q e).1), fun q hq => hq.elim .inl (fun e => ?_)⟩, ?_⟩
 ·rcases hg with ⟨h1, _⟩ | ⟨h1, _⟩
  ·rw [h1] at e; exact .inl (hown q e).1
  ·rw [h1] at e; injection e with e; exact .inr (by omega)
 ·intro q hq
  refine ⟨.inr hq, ?_⟩
  rcases hg with ⟨h1, _⟩ | ⟨h1, _⟩
  ·rw [h1] at hq; exact (hown q hq).2
  ·rw [h1] at hq; injection hq with hq
   subst hq
   exact ⟨by omega, fun e => by have := hmb _ e; omega, fun e he _ hq => by have := h.lt he hq; omega⟩
theorem Hit.below {w w' : World} {s : ByteArray} {K : Dk} {es : List (Lit × DataW Value)} {p : Option Addr} {m c : Nat} {y : Int} {x : Fl} (h : Hit w s K es p m c y x) (hb : Below w.heap.size w w') : Hit w' s K es p m c y x :=
 ⟨h.get, h.len, h.syn, h.mem, own_below h.row hb⟩
theorem append_do (s : ByteArray) (hs : s.size <= maxLen) (p : Option Addr) (c : Nat) (B0 B1 B2 B3 : Nat) {w : World} {d N n : Nat} {K : Dk} {S : Nat -> Prop} {mo : Option Nat} {es : List (Lit × DataW Value)} (h : DiskIs w d N K S mo n es) (hN : N < 1000000) (x : Fl) (hh : Hit w s K es p x.bs.length c (x.sy : Int) x) (u : Value) (b2 : List UInt8) (hu : BytesAt w u b2) (hl : x.bs.length + b2.length <= 140737488351232)
  (k0 : w.cell? ⟨B0, 0, none⟩ = some (.pointer (some ⟨d, 0, none⟩))) (k1 : w.cell? ⟨B1, 0, none⟩ = some (.string s)) (k2 : w.cell? ⟨B2, 0, none⟩ = some (.slice p x.bs.length c)) (k3 : w.cell? ⟨B2, 1, none⟩ = some (.int .i64 (x.sy : Int))) (k4 : w.cell? ⟨B3, 0, none⟩ = some u)
  (n0 : ¬ S B0) (n1 : ¬ S B1) (n2 : ¬ S B2) (n3 : ¬ S B3) :
  Calls Tryz.prog 149 #[.pointer (some ⟨B0, 0, none⟩), .pointer (some ⟨B1, 0, none⟩), .pointer (some ⟨B2, 0, none⟩), .pointer (some ⟨B3, 0, none⟩)] w fun e w' => (∃ v, e = .returned v) /\ ∃ S', DiskOK w' d (N + 1) { K with A := putF s.data.toList ⟨x.bs ++ b2, x.sy⟩ K.A } S' /\ Sep w w' S S' := by
 have B1' : Below w.heap.size w w.drew := below_drewN (Below.refl _ w) 1
 have HD := hide (h.below B1')
 have HH := hide (hh.below B1')
 have HU := hide (hu.far (W' := w.drew) (fun _ _ => rfl))
 have hlt : ∀ {b j : Nat} {v : Value}, w.cell? ⟨b, j, none⟩ = some v -> b < w.heap.size := fun hv => World.block_lt_of_cell? w ⟨_, _, none⟩ hv
 obtain ⟨b3, hb3⟩ : ∃ b3, b3 = x.bs ++ b2 := ⟨_, rfl⟩
 rw [<- hb3]
 have HB3 := hide hb3
 clear hb3
 have HA : Hid (∀ p' c' w5, w5.ownsRow 0 5 1 (.slice p' b3.length c') b3.length (bcs b3) -> w5.ownsRow 0 5 1 (.slice p x.bs.length c) x.bs.length (bcs x.bs) ->
   (((Value.slice p' b3.length c').ownBlock = (Value.slice p x.bs.length c).ownBlock /\ w.drew.grownBy w5 (Value.slice p x.bs.length c).ownBlock) \/ ((Value.slice p' b3.length c').ownBlock = some w.drew.heap.size /\ w.drew.grownBy w5 none)) ->
   (w5.cell? ⟨B0, 0, none⟩ = some (.pointer (some ⟨d, 0, none⟩)) /\ w5.cell? ⟨B1, 0, none⟩ = some (.string s) /\ w5.cell? ⟨B2, 0, none⟩ = some (.slice p x.bs.length c) /\ w5.cell? ⟨B2, 1, none⟩ = some (.int .i64 (x.sy : Int)) /\ w5.cell? ⟨B3, 0, none⟩ = some u) /\
   Hid (Calls Tryz.prog 147 #[.pointer (some ⟨d, 0, none⟩), .string s, .agg #[.slice p' b3.length c', .int .i64 (x.sy : Int)]] w5 fun e w' => (∃ v, e = .returned v) /\ (∃ S', DiskOK w' d (N + 1) { K with A := putF s.data.toList ⟨b3, x.sy⟩ K.A } S' /\ Sep w w' S S') /\ w'.cell? ⟨B0, 0, none⟩ = some (.pointer (some ⟨d, 0, none⟩)) /\ w'.cell? ⟨B1, 0, none⟩ = some (.string s) /\ w'.cell? ⟨B2, 0, none⟩ = some (.slice p x.bs.length c) /\ w'.cell? ⟨B2, 1, none⟩ = some (.int .i64 (x.sy : Int)) /\ w'.cell? ⟨B3, 0, none⟩ = some u)) := by
  intro p' c' w5 r1 r2 hg
  obtain ⟨g1, g2, g3⟩ := (uh HD).grows (uh HH) _ r1 r2 hg
  have hk : ∀ {b j : Nat} {v : Value}, w.cell? ⟨b, j, none⟩ = some v -> ¬ S b -> w5.cell? ⟨b, j, none⟩ = some v := fun {b j v} hv hn => (World.cell?_of_block (a := ⟨b, j, none⟩) (g2.block b (hlt hv) hn)).trans hv
  refine ⟨⟨hk k0 n0, hk k1 n1, hk k2 n2, hk k3 n2, hk k4 n3⟩, ?_⟩
  refine (put_is g1 hN s hs p' c' ⟨b3, x.sy⟩ r1 g3).mono ?_
  rintro e w' ⟨hr, S', h1, h2⟩
  have g5 := ((Sep.of_below S B1').trans g2).trans h2
  have hk : ∀ {b j : Nat} {v : Value}, w.cell? ⟨b, j, none⟩ = some v -> ¬ S b -> w'.cell? ⟨b, j, none⟩ = some v := fun {b j v} hv hn => (World.cell?_of_block (a := ⟨b, j, none⟩) (g5.block b (hlt hv) hn)).trans hv
  exact ⟨hr, ⟨S', h1, g5⟩, hk k0 n0, hk k1 n1, hk k2 n2, hk k3 n2, hk k4 n3⟩
 have OWN := hide (own_below hh.row B1')
 clear h hh hu B1' hlt
 go_enter Tryz.func149, Tryz.ntmps149
 go_wp2_with fail
 go_region_held_law (fun W => W.cell? ⟨B0, 0, none⟩ = some (.pointer (some ⟨d, 0, none⟩)) /\ W.cell? ⟨B1, 0, none⟩ = some (.string s) /\ W.cell? ⟨B2, 0, none⟩ = some (.slice p x.bs.length c) /\ W.cell? ⟨B2, 1, none⟩ = some (.int .i64 (x.sy : Int)) /\ W.cell? ⟨B3, 0, none⟩ = some u) (first | (refine ⟨?_, ?_, ?_, ?_, ?_⟩ <;> with_reducible assumption) | go_keep)
  (first
  | ((refine step_append_b _ (by rfl) _ _ (by rfl) (.slice p x.bs.length c) x.bs (by rfl) (uh OWN) u b2 (by rfl) (uh HU) hl b3 (uh HB3) ?_; intro p' c' w5 r1 r2 hg; obtain ⟨⟨m0, m1, m2, m3, m4⟩, HP⟩ := uh HA p' c' w5 r1 r2 hg; clear r1 r2 hg))
  | ((go_at_call 147; refine (uh HP).mono ?_; rintro e w6 ⟨⟨r, rfl⟩, hres, c0, c1, c2, c3, c4⟩; have HRES := hide hres; clear hres)))
 all_goals go_wp2_with fail
 all_goals go_end0
 all_goals exact ⟨⟨_, rfl⟩, uh HRES⟩
end Go.Proofs.YtpeohbkigkfcgaaGreatDoor
