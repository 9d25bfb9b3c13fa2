import Derived.Test.YtpeohbkigkfcgaaGreatDoorGAP
import Derived.Test.YtpeohbkigkfcgaaGreatDoorGAO
import Derived.Test.YtpeohbkigkfcgaaGreatDoorGAG
import Derived.Test.YtpeohbkigkfcgaaGreatDoorGAK
import Derived.Test.YtpeohbkigkfcgaaGreatDoorGAE
set_option linter.unusedVariables false
set_option linter.unusedSimpArgs false
set_option maxRecDepth 100000
set_option maxHeartbeats 16000000
namespace Go.Proofs.YtpeohbkigkfcgaaGreatDoor.Kf
open Go Go.ChangeShapes Go.WideShapes Go.ChangeAt Go.RowKit
open Go.Proofs.YtpeohbkigkfcgaaGreatDoor.Kt (Pw mkS text_any Grn id_any)
attribute [local go_sem] setCell_drewN alloc_drewN
def Fp (R : Value) (p : Nat -> Pg) (m q : Nat) : Prop := R.ownBlock = some q \/ ∃ i, i < m /\ (p i).has q
theorem KindAt.fp {w : World} {bk m : Nat} {R : Value} {p : Nat -> Pg} (h : KindAt w bk m R p) {q : Nat} (hq : Fp R p m q) : q ≠ bk /\ q < w.heap.size := by
 rcases hq with hq | ⟨i, hi, hq⟩
 ·exact ⟨fun e => h.rb (by rw [<- e]; exact hq), (h.row.lt q hq).2⟩
 ·exact ⟨(h.far i hi q hq).1, (h.far i hi q hq).2.2⟩
theorem Went.fp {w w' : World} {bk m : Nat} {R : Value} {p p' : Nat -> Pg} (h : Went w w' bk m R p p') {q : Nat} (hq : Fp R p' m q) : Fp R p m q \/ w.heap.size <= q := by
 rcases hq with hq | ⟨i, hi, hq⟩
 ·exact .inl (.inl hq)
 ·exact (h.2.2 i hi q hq).imp (fun h' => .inr ⟨i, hi, h'⟩) id
theorem Went.far {w w' : World} {bk m : Nat} {R : Value} {p p' : Nat -> Pg} (h : Went w w' bk m R p p') {q : Nat} (hq : ¬ Fp R p m q) (hl : q < w.heap.size) : w'.heap[q]? = w.heap[q]? :=
 h.2.1.block q hl (fun e => hq (.inl e)) (fun i hi e => hq (.inr ⟨i, hi, e⟩))
structure Mine (w : World) (bk m : Nat) (R : Value) (p : Nat -> Pg) (L : Value) (n : Nat) (f : Nat -> FE) : Prop where
 own : w.ownsRow 0 82 3 L n (fcells f n)
 le : n <= 64
 apart : ∀ q, L.ownBlock = some q -> q ≠ bk /\ ¬ Fp R p m q
 l3 : L.ownBlock ≠ some 0
def More (w w' : World) (bk m k : Nat) (R : Value) (p : Nat -> Pg) (L : Value) (s : Nat) : Prop :=
 ∃ R' P, P.s = s /\ KindAt w' bk (m + 1) R' (upd p m P) /\ w'.cell? ⟨bk, 6, none⟩ = some (.int .i64 ((k : Int) + 1)) /\ (∀ i, i ≠ 6 -> i ≠ 24 -> w'.cell? ⟨bk, i, none⟩ = w.cell? ⟨bk, i, none⟩) /\ (∀ q, Fp R' (upd p m P) (m + 1) q -> Fp R p m q \/ L.ownBlock = some q \/ w.heap.size <= q) /\
  w.heap.size <= w'.heap.size /\ w'.os = w.os /\ w'.tape = w.tape /\ w'.output = w.output /\ ∀ q, q < w.heap.size -> q ≠ bk -> ¬ Fp R p m q -> L.ownBlock ≠ some q -> w'.heap[q]? = w.heap[q]?
theorem fp_push {R R' L : Value} {p : Nat -> Pg} {P : Pg} {m z : Nat} (hR : ∀ q, R'.ownBlock = some q -> R.ownBlock = some q \/ z <= q) (hP : ∀ q, P.has q -> L.ownBlock = some q \/ z <= q) : ∀ q, Fp R' (upd p m P) (m + 1) q -> Fp R p m q \/ L.ownBlock = some q \/ z <= q := by
 rintro q (hq | ⟨i, hi, hq⟩)
 ·exact (hR q hq).imp .inl .inr
 ·by_cases e : i = m
  ·subst e
   rw [upd_same] at hq
   exact .inr (hP q hq)
  ·rw [upd_other _ _ _ _ e] at hq
   exact .inl (.inr ⟨i, by omega, hq⟩)
theorem more_keep {w w' : World} {bk m k n : Nat} {R L : Value} {p : Nat -> Pg} {f : Nat -> FE} (h : KindAt w bk m R p) (hL : Mine w bk m R p L n f) (hk : k < 900) (ho : KeepOut w bk k m 0 L n f R (pages p m) w') : More w w' bk m k R p L 0 := by
 obtain ⟨g6, c6, gw, cw, c0, c1, hrow, hW, n1, n2, n3, ci, cf, hz, os, tp, ou, hblk⟩ := ho
 have hbk := h.lt
 have hgw := hW.lt gw rfl
 have hLl : ∀ q, L.ownBlock = some q -> q < w.heap.size := fun q hq => (hL.own.lt q hq).2
 have hRl : ∀ q, R.ownBlock = some q -> q < w.heap.size := fun q hq => (h.row.lt q hq).2
 have hLR : ∀ q, L.ownBlock = some q -> R.ownBlock ≠ some q := fun q hq e => (hL.apart q hq).2 (.inl e)
 have hhas : ∀ q, (⟨L, n, .slice none 0 0, .slice (some ⟨gw, 0, none⟩) n cw, k + 1, 0, f⟩ : Pg).has q -> L.ownBlock = some q \/ q = gw := by
  intro q hq
  rcases hq with hq | hq | hq
  ·exact .inl hq
  ·cases hq
  ·injection hq with hq; exact .inr hq.symm
 have hg6 : ∀ q, L.ownBlock = some q -> g6 ≠ q := by
  intro q hq e
  subst e
  rcases n3 with h' | h'
  ·exact hLR g6 hq h'.symm
  ·have := hLl g6 hq; omega
 refine ⟨_, ⟨L, n, .slice none 0 0, .slice (some ⟨gw, 0, none⟩) n cw, k + 1, 0, f⟩, rfl, h.push c1 cf ?_ ?_ ?_ hz ?_ ?_ (hblk 0 h.tab.lt (fun e => h.b3 e.symm) h.r3) (fun h' => (hhas 0 h').elim hL.l3 (fun e => by have := h.tab.lt; omega)), c0, ci, fp_push ?_ ?_, hz, os, tp, ou, fun q h1 h2 h3 _ => hblk q h1 h2 (fun e => h3 (.inl e))⟩
 ·have e : (⟨L, n, .slice none 0 0, .slice (some ⟨gw, 0, none⟩) n cw, k + 1, 0, f⟩ : Pg).cells = [L, .slice none 0 0, .slice (some ⟨gw, 0, none⟩) n cw, .int .i64 ((k : Int) + 1), .bool false] := by simp [Pg.cells]
  rw [e]
  exact hrow
 ·intro q hq
  injection hq with hq
  have hq : g6 = q := hq
  subst hq
  refine ⟨n1, fun hh => ?_, n3.imp Eq.symm id⟩
  rcases hhas g6 hh with h' | h'
  ·exact hg6 g6 h' rfl
  ·exact n2 h'
 ·refine ⟨hL.le, by show k + 1 < 1000; omega, fun _ => ⟨?_, rfl, hW.mono (Nat.zero_le _), fun q hq e => ?_, gw, cw, rfl⟩, fun e => by simp at e, fun e => by simp at e, by simp⟩
  ·exact row_far hL.own (fun q hq => hblk q (hLl q hq) (hL.apart q hq).1 (hLR q hq))
  ·injection e with e
   have e : gw = q := e
   have := hLl q hq
   omega
 ·intro i hi q hq
  exact hblk q (h.far i hi q hq).2.2 (h.far i hi q hq).1 (h.far i hi q hq).2.1
 ·intro q hq
  rcases hhas q hq with h' | h'
  ·exact ⟨(hL.apart q h').1, by have := hLl q h'; omega, fun i hi e => (hL.apart q h').2 (.inr ⟨i, hi, e⟩)⟩
  ·subst h'
   exact ⟨by omega, hgw.2, fun i hi hq => by have := (h.far i hi q hq).2.2; omega⟩
 ·intro q hq
  injection hq with hq
  have hq : g6 = q := hq
  subst hq
  exact n3.imp Eq.symm id
 ·intro q hq
  exact (hhas q hq).imp id (fun e => by omega)
theorem keep_more {w : World} {bk m k n : Nat} {R L : Value} {p : Nat -> Pg} {f : Nat -> FE} (h : KindAt w bk m R p) (c0 : w.cell? ⟨bk, 6, none⟩ = some (.int .i64 (k : Int))) (hL : Mine w bk m R p L n f) (hk : k < 900) (hm : m < 96) :
  Calls Tryz.prog 217 #[.pointer (some ⟨bk, 6, none⟩), L] w fun e w' => e = .returned (.tuple #[]) /\ More w w' bk m k R p L 0 := by
 obtain ⟨pa, pc, rfl, _⟩ := book_row h
 have hpb : ∀ q, (Value.slice pa m pc).ownBlock = some q -> q ≠ bk := fun q hq e => h.rb (by rw [<- e]; exact hq)
 rcases LShows.of_own hL.own with ⟨hn0, hL0⟩ | ⟨gb, cap, hL0, hgl, hc⟩
 ·subst hL0 hn0
  refine (keep_none none 0 (fun _ => rfl) bk k 0 f hk w m pc pa (pages p m) (Nat.zero_le _) hm c0 h.c1 (h.fz 6) (h.fz 24) h.row hpb).mono ?_
  rintro e w' ⟨rfl, ho⟩
  exact ⟨rfl, more_keep h hL hk ho⟩
 ·subst hL0
  by_cases hn : 0 < n
  ·refine (keep_files bk k n cap gb 0 f hk hL.le hn w m pc pa (pages p m) (Nat.zero_le _) hm c0 h.c1 (h.fz 6) (h.fz 24) hgl hc h.row hpb).mono ?_
   rintro e w' ⟨rfl, ho⟩
   exact ⟨rfl, more_keep h hL hk ho⟩
  ·have hn : n = 0 := by omega
   subst hn
   refine (keep_none (some ⟨gb, 0, none⟩) cap (fun e => by cases e) bk k 0 f hk w m pc pa (pages p m) (Nat.zero_le _) hm c0 h.c1 (h.fz 6) (h.fz 24) h.row hpb).mono ?_
   rintro e w' ⟨rfl, ho⟩
   exact ⟨rfl, more_keep h hL hk ho⟩
theorem more_write {w w' : World} {bk m k n gb : Nat} {R L : Value} {p : Nat -> Pg} {f : Nat -> FE} (h : KindAt w bk m R p) (hL : Mine w bk m R p L n f) (hk : k < 900) (ho : WriteOut w bk k m 0 0 gb n L R (pages p m) w') (hgb : (n = 0 /\ L = .slice none 0 0 /\ gb = w.heap.size) \/ ∃ cap, L = .slice (some ⟨gb, 0, none⟩) n cap /\ gb < w.heap.size) : More w w' bk m k R p L 2 := by
 obtain ⟨g6, c6, v, c0, c1, hrow, hV, hlst, n1, n2, n3, n4, n5, n6, ci, cf, hz, os, tp, ou, hblk⟩ := ho
 have hbk := h.lt
 have hLl : ∀ q, L.ownBlock = some q -> q < w.heap.size := fun q hq => (hL.own.lt q hq).2
 have hLg : ∀ q, L.ownBlock = some q -> q = gb := by
  intro q hq
  rcases hgb with ⟨_, rfl, _⟩ | ⟨cap, rfl, _⟩
  ·cases hq
  ·injection hq with hq; exact hq.symm
 have hgL : ∀ q, q = gb -> L.ownBlock = some q \/ w.heap.size <= q := by
  rintro q rfl
  rcases hgb with ⟨_, rfl, h'⟩ | ⟨cap, rfl, _⟩
  ·exact .inr (by omega)
  ·exact .inl rfl
 have hvL : ∀ q, v.ownBlock = some q -> L.ownBlock = some q \/ w.heap.size <= q := by
  intro q hq
  rcases n5 with h' | h'
  ·rw [h'] at hq
   injection hq with hq
   exact hgL q hq.symm
  ·exact .inr (h' q hq)
 have hhas : ∀ q, (⟨L, n, v, .slice none 0 0, k + 1, 2, f⟩ : Pg).has q -> L.ownBlock = some q \/ w.heap.size <= q := by
  intro q hq
  rcases hq with hq | hq | hq
  ·exact .inl hq
  ·exact hvL q hq
  ·cases hq
 refine ⟨_, ⟨L, n, v, .slice none 0 0, k + 1, 2, f⟩, rfl, h.push c1 cf ?_ ?_ ?_ hz ?_ ?_ (hblk 0 h.tab.lt (fun e => h.b3 e.symm) (fun e => (hgL 0 e).elim hL.l3 (fun h' => by have := h.tab.lt; omega)) h.r3) (fun h' => (hhas 0 h').elim hL.l3 (fun e => by have := h.tab.lt; omega)), c0, ci, fp_push ?_ hhas, hz, os, tp, ou, fun q h1 h2 h3 h4 => hblk q h1 h2 (fun e => by rcases hgL q e with h' | h'; exact h4 h'; omega) (fun e => h3 (.inl e))⟩
 ·have e : (⟨L, n, v, .slice none 0 0, k + 1, 2, f⟩ : Pg).cells = [L, v, .slice none 0 0, .int .i64 ((k : Int) + 1), .bool true] := by simp [Pg.cells]
  rw [e]
  exact hrow
 ·intro q hq
  injection hq with hq
  have hq : g6 = q := hq
  subst hq
  refine ⟨n1, fun hh => ?_, n6.imp Eq.symm id⟩
  rcases hh with hh | hh | hh
  ·exact n2 (hLg g6 hh)
  ·exact n3 hh
  ·cases hh
 ·refine ⟨hL.le, by show k + 1 < 1000; omega, fun e => by simp at e, fun e => by simp at e, fun _ => ⟨?_, hV⟩, by simp⟩
  rcases hgb with ⟨h1, h2, _⟩ | ⟨cap, h1, h2⟩
  ·exact .inl ⟨h1, h2⟩
  ·exact .inr ⟨gb, cap, h1, by omega, hlst⟩
 ·intro i hi q hq
  have hf := h.far i hi q hq
  exact hblk q hf.2.2 hf.1 (fun e => by rcases hgL q e with h' | h'; exact (hL.apart q h').2 (.inr ⟨i, hi, hq⟩); omega) hf.2.1
 ·intro q hq
  rcases hhas q hq with h' | h'
  ·exact ⟨(hL.apart q h').1, by have := hLl q h'; omega, fun i hi e => (hL.apart q h').2 (.inr ⟨i, hi, e⟩)⟩
  ·refine ⟨by omega, ?_, fun i hi hq => by have := (h.far i hi q hq).2.2; omega⟩
   rcases hq with hq | hq | hq
   ·have := hLl q hq; omega
   ·exact (hV.lt q hq).2
   ·cases hq
 ·intro q hq
  injection hq with hq
  have hq : g6 = q := hq
  subst hq
  exact n6.imp Eq.symm id
theorem write_more {w : World} {bk m k n : Nat} {R L : Value} {p : Nat -> Pg} {f : Nat -> FE} (h : KindAt w bk m R p) (c0 : w.cell? ⟨bk, 6, none⟩ = some (.int .i64 (k : Int))) (hL : Mine w bk m R p L n f) (hk : k < 900) (hm : m < 96) :
  Calls Tryz.prog 216 #[.pointer (some ⟨bk, 6, none⟩), L] w fun e w' => e = .returned (.tuple #[]) /\ More w w' bk m k R p L 2 := by
 obtain ⟨pa, pc, rfl, _⟩ := book_row h
 have hpb : ∀ q, (Value.slice pa m pc).ownBlock = some q -> q ≠ bk := fun q hq e => h.rb (by rw [<- e]; exact hq)
 rcases LShows.of_own hL.own with ⟨hn0, hL0⟩ | ⟨gb, cap, hL0, hgl, hc⟩
 ·subst hL0 hn0
  refine (write_none bk k 0 0 hk w m pc pa (pages p m) (Nat.zero_le _) (Nat.zero_le _) hm c0 h.c1 (h.fz 6) (h.fz 24) h.tab h.b3 h.row hpb).mono ?_
  rintro e w' ⟨rfl, ho⟩
  exact ⟨rfl, more_write h hL hk ho (.inl ⟨rfl, rfl, rfl⟩)⟩
 ·subst hL0
  have hap := hL.apart gb rfl
  refine (write_some bk k n cap gb 0 0 f hk hL.le w m pc pa (pages p m) (Nat.zero_le _) (Nat.zero_le _) hm c0 h.c1 (h.fz 6) (h.fz 24) h.tab ⟨h.b3, fun e => hL.l3 (by rw [e]; rfl)⟩ hgl hap.1 hL.own (fun j => hL.own.frozenAt j) h.row (fun q hq => ⟨hpb q hq, fun e => hap.2 (.inl (by rw [<- e]; exact hq))⟩)).mono ?_
  rintro e w' ⟨rfl, ho⟩
  exact ⟨rfl, more_write h hL hk ho (.inr ⟨cap, rfl, hgl⟩)⟩
theorem keep_full (bk m pc : Nat) (pa : Option Addr) (hm : 96 <= m) (w : World) (hk1 : w.cell? ⟨bk, 24, none⟩ = some (.slice pa m pc)) (L : Value) : Calls Tryz.prog 217 #[.pointer (some ⟨bk, 6, none⟩), L] w fun e w' => e = .returned (.tuple #[]) /\ w' = w := by
 have hI1 : ¬ (m : Int) < 96 := by omega
 go_enter Tryz.func217, Tryz.ntmps217
 go_wp2_with fail
 go_end0
 exact ⟨rfl, rfl⟩
theorem write_full (bk m pc : Nat) (pa : Option Addr) (hm : 96 <= m) (w : World) (hk1 : w.cell? ⟨bk, 24, none⟩ = some (.slice pa m pc)) (L : Value) : Calls Tryz.prog 216 #[.pointer (some ⟨bk, 6, none⟩), L] w fun e w' => e = .returned (.tuple #[]) /\ w' = w := by
 have hI1 : ¬ (m : Int) < 96 := by omega
 go_enter Tryz.func216, Tryz.ntmps216
 go_wp2_with fail
 go_end0
 exact ⟨rfl, rfl⟩
end Go.Proofs.YtpeohbkigkfcgaaGreatDoor.Kf
namespace Go.Proofs.YtpeohbkigkfcgaaGreatDoor
open Go Go.ChangeShapes Go.WideShapes Go.ChangeAt Go.RowKit
structure KBIs (w : World) (bk k m1 : Nat) (R1 : Value) (p1 : Nat -> Kp.Pg) (m2 : Nat) (R2 : Value) (p2 : Nat -> Kt.Pg) (m3 : Nat) (R3 : Value) (p3 : Nat -> Kf.Pg) (U : Nat -> Prop) : Prop where
 c0 : w.cell? ⟨bk, 6, none⟩ = some (.int .i64 (k : Int))
 b1 : Kp.KindAt w bk m1 R1 p1
 b2 : Kt.KindAt w bk m2 R2 p2
 b3 : Kf.KindAt w bk m3 R3 p3
 l1 : m1 <= 96
 l2 : m2 <= 96
 l3 : m3 <= 96
 lk : k <= m1 + m2 + m3
 bare : ∀ j, 7 <= j -> j <= 26 -> j ≠ 7 -> j ≠ 10 -> j ≠ 24 -> w.cell? ⟨bk, j, none⟩ = some (.slice none 0 0)
 d12 : ∀ q, Kp.Fp R1 p1 m1 q -> ¬ Kt.Fp R2 p2 m2 q
 d13 : ∀ q, Kp.Fp R1 p1 m1 q -> ¬ Kf.Fp R3 p3 m3 q
 d23 : ∀ q, Kt.Fp R2 p2 m2 q -> ¬ Kf.Fp R3 p3 m3 q
 u1 : ∀ q, Kp.Fp R1 p1 m1 q -> U q
 u2 : ∀ q, Kt.Fp R2 p2 m2 q -> U q
 u3 : ∀ q, Kf.Fp R3 p3 m3 q -> U q
 ul : ∀ q, U q -> q ≠ bk /\ q ≠ 0 /\ q < w.heap.size
theorem Kp.KindAt.on {w w' : World} {bk m : Nat} {R : Value} {p : Nat -> Kp.Pg} (h : Kp.KindAt w bk m R p) (hz : w.heap.size <= w'.heap.size) (c1 : w'.cell? ⟨bk, 7, none⟩ = w.cell? ⟨bk, 7, none⟩) (cf : ∀ j, w'.frozen? ⟨bk, j, none⟩ = w.frozen? ⟨bk, j, none⟩) (hq : ∀ q, Kp.Fp R p m q -> w'.heap[q]? = w.heap[q]?) : Kp.KindAt w' bk m R p :=
 ⟨c1.trans h.c1, fun i => (cf i).trans (h.fz i), row_far h.row (fun q e => hq q (.inl e)), h.rb, fun i hi => (h.ok i hi).far hz (fun q e => hq q (.inr ⟨i, hi, e⟩)), fun i hi q e => ⟨(h.far i hi q e).1, (h.far i hi q e).2.1, by have := (h.far i hi q e).2.2; omega⟩, h.apart⟩
theorem Kt.KindAt.on {w w' : World} {bk m : Nat} {R : Value} {p : Nat -> Kt.Pg} (h : Kt.KindAt w bk m R p) (hz : w.heap.size <= w'.heap.size) (c1 : w'.cell? ⟨bk, 10, none⟩ = w.cell? ⟨bk, 10, none⟩) (cf : ∀ j, w'.frozen? ⟨bk, j, none⟩ = w.frozen? ⟨bk, j, none⟩) (hq : ∀ q, Kt.Fp R p m q -> w'.heap[q]? = w.heap[q]?) (ht : w'.heap[0]? = w.heap[0]?) : Kt.KindAt w' bk m R p :=
 ⟨c1.trans h.c1, fun i => (cf i).trans (h.fz i), row_far h.row (fun q e => hq q (.inl e)), h.rb, fun i hi => (h.ok i hi).far hz (fun q e => hq q (.inr ⟨i, hi, e⟩)), fun i hi q e => ⟨(h.far i hi q e).1, (h.far i hi q e).2.1, by have := (h.far i hi q e).2.2; omega⟩, h.apart, h.tab.keep ht, h.b3, h.r3, h.p3⟩
theorem Kf.KindAt.on {w w' : World} {bk m : Nat} {R : Value} {p : Nat -> Kf.Pg} (h : Kf.KindAt w bk m R p) (hz : w.heap.size <= w'.heap.size) (c1 : w'.cell? ⟨bk, 24, none⟩ = w.cell? ⟨bk, 24, none⟩) (cf : ∀ j, w'.frozen? ⟨bk, j, none⟩ = w.frozen? ⟨bk, j, none⟩) (hq : ∀ q, Kf.Fp R p m q -> w'.heap[q]? = w.heap[q]?) (ht : w'.heap[0]? = w.heap[0]?) : Kf.KindAt w' bk m R p :=
 ⟨c1.trans h.c1, fun i => (cf i).trans (h.fz i), row_far h.row (fun q e => hq q (.inl e)), h.rb, fun i hi => (h.ok i hi).far hz (fun q e => hq q (.inr ⟨i, hi, e⟩)), fun i hi q e => ⟨(h.far i hi q e).1, (h.far i hi q e).2.1, by have := (h.far i hi q e).2.2; omega⟩, h.apart, h.tab.keep ht, h.b3, h.r3, h.p3⟩
theorem KBIs.on {w w' : World} {bk k m1 : Nat} {R1 : Value} {p1 : Nat -> Kp.Pg} {m2 : Nat} {R2 : Value} {p2 : Nat -> Kt.Pg} {m3 : Nat} {R3 : Value} {p3 : Nat -> Kf.Pg} {U : Nat -> Prop} (h : KBIs w bk k m1 R1 p1 m2 R2 p2 m3 R3 p3 U) (hz : w.heap.size <= w'.heap.size) (hc : ∀ j, 6 <= j -> w'.cell? ⟨bk, j, none⟩ = w.cell? ⟨bk, j, none⟩) (cf : ∀ j, w'.frozen? ⟨bk, j, none⟩ = w.frozen? ⟨bk, j, none⟩) (h0 : w'.heap[0]? = w.heap[0]?) (hU : ∀ q, U q -> w'.heap[q]? = w.heap[q]?) : KBIs w' bk k m1 R1 p1 m2 R2 p2 m3 R3 p3 U :=
 ⟨(hc 6 (by omega)).trans h.c0, h.b1.on hz (hc 7 (by omega)) cf (fun q hq => hU q (h.u1 q hq)), h.b2.on hz (hc 10 (by omega)) cf (fun q hq => hU q (h.u2 q hq)) h0, h.b3.on hz (hc 24 (by omega)) cf (fun q hq => hU q (h.u3 q hq)) h0, h.l1, h.l2, h.l3, h.lk, fun j h1 h2 h3 h4 h5 => (hc j (by omega)).trans (h.bare j h1 h2 h3 h4 h5), h.d12, h.d13, h.d23, h.u1, h.u2, h.u3, fun q hq => ⟨(h.ul q hq).1, (h.ul q hq).2.1, Nat.lt_of_lt_of_le (h.ul q hq).2.2 hz⟩⟩
theorem KBIs.below {w w' : World} {bk k m1 : Nat} {R1 : Value} {p1 : Nat -> Kp.Pg} {m2 : Nat} {R2 : Value} {p2 : Nat -> Kt.Pg} {m3 : Nat} {R3 : Value} {p3 : Nat -> Kf.Pg} {U : Nat -> Prop} (h : KBIs w bk k m1 R1 p1 m2 R2 p2 m3 R3 p3 U) (hb : Below w.heap.size w w') : KBIs w' bk k m1 R1 p1 m2 R2 p2 m3 R3 p3 U :=
 h.on hb.size (fun j _ => World.cell?_of_block (hb.block bk h.b1.lt)) (fun j => World.frozen?_of_block (hb.block bk h.b1.lt)) (hb.block 0 h.b2.tab.lt) (fun q hq => hb.block q (h.ul q hq).2.2)
theorem KBIs.went1 {w w' : World} {bk k m1 : Nat} {R1 : Value} {p1 : Nat -> Kp.Pg} {m2 : Nat} {R2 : Value} {p2 : Nat -> Kt.Pg} {m3 : Nat} {R3 : Value} {p3 : Nat -> Kf.Pg} {U : Nat -> Prop} {p' : Nat -> Kp.Pg} (h : KBIs w bk k m1 R1 p1 m2 R2 p2 m3 R3 p3 U) (hw : Kp.Went w w' bk m1 R1 p1 p') : KBIs w' bk k m1 R1 p' m2 R2 p2 m3 R3 p3 (fun q => U q \/ (w.heap.size <= q /\ q < w'.heap.size)) /\ Sep w w' U (fun q => U q \/ (w.heap.size <= q /\ q < w'.heap.size)) := by
 have hz := hw.2.1.size
 have hbk : w'.heap[bk]? = w.heap[bk]? := hw.far (fun hq => (h.b1.fp hq).1 rfl) h.b1.lt
 have h0 : w'.heap[0]? = w.heap[0]? := hw.far (fun hq => (h.ul 0 (h.u1 0 hq)).2.1 rfl) h.b2.tab.lt
 have cc : ∀ j, w'.cell? ⟨bk, j, none⟩ = w.cell? ⟨bk, j, none⟩ := fun j => World.cell?_of_block hbk
 have cf : ∀ j, w'.frozen? ⟨bk, j, none⟩ = w.frozen? ⟨bk, j, none⟩ := fun j => World.frozen?_of_block hbk
 have B2 : Kt.KindAt w' bk m2 R2 p2 := h.b2.on hz (cc _) cf (fun q hq => hw.far (fun z => h.d12 q z hq) (h.b2.fp hq).2) h0
 have B3 : Kf.KindAt w' bk m3 R3 p3 := h.b3.on hz (cc _) cf (fun q hq => hw.far (fun z => h.d13 q z hq) (h.b3.fp hq).2) h0
 refine ⟨⟨(cc 6).trans h.c0, hw.1, B2, B3, h.l1, h.l2, h.l3, h.lk, fun j h1 h2 h3 h4 h5 => (cc j).trans (h.bare j h1 h2 h3 h4 h5), (fun q hq hq' => (hw.fp hq).elim (fun e => h.d12 q e hq') (fun e => by have := (h.b2.fp hq').2; omega)), (fun q hq hq' => (hw.fp hq).elim (fun e => h.d13 q e hq') (fun e => by have := (h.b3.fp hq').2; omega)), h.d23, (fun q hq => (hw.fp hq).imp (h.u1 q) (fun e => ⟨e, (hw.1.fp hq).2⟩)), (fun q hq => .inl (h.u2 q hq)), (fun q hq => .inl (h.u3 q hq)), ?_⟩, ⟨hw.2.1.os, hw.2.1.tape, hw.2.1.output, hz, fun q hq hU => hw.far (fun e => hU (h.u1 q e)) hq, fun q hq => hq.imp id (fun e => e.1)⟩⟩
 rintro q (hq | hq)
 ·exact ⟨(h.ul q hq).1, (h.ul q hq).2.1, Nat.lt_of_lt_of_le (h.ul q hq).2.2 hz⟩
 ·have := h.b1.lt
  exact ⟨by omega, by omega, hq.2⟩
theorem KBIs.went2 {w w' : World} {bk k m1 : Nat} {R1 : Value} {p1 : Nat -> Kp.Pg} {m2 : Nat} {R2 : Value} {p2 : Nat -> Kt.Pg} {m3 : Nat} {R3 : Value} {p3 : Nat -> Kf.Pg} {U : Nat -> Prop} {p' : Nat -> Kt.Pg} (h : KBIs w bk k m1 R1 p1 m2 R2 p2 m3 R3 p3 U) (hw : Kt.Went w w' bk m2 R2 p2 p') : KBIs w' bk k m1 R1 p1 m2 R2 p' m3 R3 p3 (fun q => U q \/ (w.heap.size <= q /\ q < w'.heap.size)) /\ Sep w w' U (fun q => U q \/ (w.heap.size <= q /\ q < w'.heap.size)) := by
 have hz := hw.2.1.size
 have hbk : w'.heap[bk]? = w.heap[bk]? := hw.far (fun hq => (h.b2.fp hq).1 rfl) h.b1.lt
 have h0 : w'.heap[0]? = w.heap[0]? := hw.far (fun hq => (h.ul 0 (h.u2 0 hq)).2.1 rfl) h.b2.tab.lt
 have cc : ∀ j, w'.cell? ⟨bk, j, none⟩ = w.cell? ⟨bk, j, none⟩ := fun j => World.cell?_of_block hbk
 have cf : ∀ j, w'.frozen? ⟨bk, j, none⟩ = w.frozen? ⟨bk, j, none⟩ := fun j => World.frozen?_of_block hbk
 have B1 : Kp.KindAt w' bk m1 R1 p1 := h.b1.on hz (cc _) cf (fun q hq => hw.far (h.d12 q hq) (h.b1.fp hq).2)
 have B3 : Kf.KindAt w' bk m3 R3 p3 := h.b3.on hz (cc _) cf (fun q hq => hw.far (fun z => h.d23 q z hq) (h.b3.fp hq).2) h0
 refine ⟨⟨(cc 6).trans h.c0, B1, hw.1, B3, h.l1, h.l2, h.l3, h.lk, fun j h1 h2 h3 h4 h5 => (cc j).trans (h.bare j h1 h2 h3 h4 h5), (fun q hq hq' => (hw.fp hq').elim (fun e => h.d12 q hq e) (fun e => by have := (h.b1.fp hq).2; omega)), h.d13, (fun q hq hq' => (hw.fp hq).elim (fun e => h.d23 q e hq') (fun e => by have := (h.b3.fp hq').2; omega)), (fun q hq => .inl (h.u1 q hq)), (fun q hq => (hw.fp hq).imp (h.u2 q) (fun e => ⟨e, (hw.1.fp hq).2⟩)), (fun q hq => .inl (h.u3 q hq)), ?_⟩, ⟨hw.2.1.os, hw.2.1.tape, hw.2.1.output, hz, fun q hq hU => hw.far (fun e => hU (h.u2 q e)) hq, fun q hq => hq.imp id (fun e => e.1)⟩⟩
 rintro q (hq | hq)
 ·exact ⟨(h.ul q hq).1, (h.ul q hq).2.1, Nat.lt_of_lt_of_le (h.ul q hq).2.2 hz⟩
 ·have := h.b1.lt
  exact ⟨by omega, by omega, hq.2⟩
theorem KBIs.went3 {w w' : World} {bk k m1 : Nat} {R1 : Value} {p1 : Nat -> Kp.Pg} {m2 : Nat} {R2 : Value} {p2 : Nat -> Kt.Pg} {m3 : Nat} {R3 : Value} {p3 : Nat -> Kf.Pg} {U : Nat -> Prop} {p' : Nat -> Kf.Pg} (h : KBIs w bk k m1 R1 p1 m2 R2 p2 m3 R3 p3 U) (hw : Kf.Went w w' bk m3 R3 p3 p') : KBIs w' bk k m1 R1 p1 m2 R2 p2 m3 R3 p' (fun q => U q \/ (w.heap.size <= q /\ q < w'.heap.size)) /\ Sep w w' U (fun q => U q \/ (w.heap.size <= q /\ q < w'.heap.size)) := by
 have hz := hw.2.1.size
 have hbk : w'.heap[bk]? = w.heap[bk]? := hw.far (fun hq => (h.b3.fp hq).1 rfl) h.b1.lt
 have h0 : w'.heap[0]? = w.heap[0]? := hw.far (fun hq => (h.ul 0 (h.u3 0 hq)).2.1 rfl) h.b2.tab.lt
 have cc : ∀ j, w'.cell? ⟨bk, j, none⟩ = w.cell? ⟨bk, j, none⟩ := fun j => World.cell?_of_block hbk
 have cf : ∀ j, w'.frozen? ⟨bk, j, none⟩ = w.frozen? ⟨bk, j, none⟩ := fun j => World.frozen?_of_block hbk
 have B1 : Kp.KindAt w' bk m1 R1 p1 := h.b1.on hz (cc _) cf (fun q hq => hw.far (h.d13 q hq) (h.b1.fp hq).2)
 have B2 : Kt.KindAt w' bk m2 R2 p2 := h.b2.on hz (cc _) cf (fun q hq => hw.far (h.d23 q hq) (h.b2.fp hq).2) h0
 refine ⟨⟨(cc 6).trans h.c0, B1, B2, hw.1, h.l1, h.l2, h.l3, h.lk, fun j h1 h2 h3 h4 h5 => (cc j).trans (h.bare j h1 h2 h3 h4 h5), h.d12, (fun q hq hq' => (hw.fp hq').elim (fun e => h.d13 q hq e) (fun e => by have := (h.b1.fp hq).2; omega)), (fun q hq hq' => (hw.fp hq').elim (fun e => h.d23 q hq e) (fun e => by have := (h.b2.fp hq).2; omega)), (fun q hq => .inl (h.u1 q hq)), (fun q hq => .inl (h.u2 q hq)), (fun q hq => (hw.fp hq).imp (h.u3 q) (fun e => ⟨e, (hw.1.fp hq).2⟩)), ?_⟩, ⟨hw.2.1.os, hw.2.1.tape, hw.2.1.output, hz, fun q hq hU => hw.far (fun e => hU (h.u3 q e)) hq, fun q hq => hq.imp id (fun e => e.1)⟩⟩
 rintro q (hq | hq)
 ·exact ⟨(h.ul q hq).1, (h.ul q hq).2.1, Nat.lt_of_lt_of_le (h.ul q hq).2.2 hz⟩
 ·have := h.b1.lt
  exact ⟨by omega, by omega, hq.2⟩
structure Took (w w' : World) (bk : Nat) (U U' : Nat -> Prop) (L : Value) : Prop where
 size : w.heap.size <= w'.heap.size
 os : w'.os = w.os
 tape : w'.tape = w.tape
 output : w'.output = w.output
 low : ∀ j, j < 6 -> w'.cell? ⟨bk, j, none⟩ = w.cell? ⟨bk, j, none⟩
 block : ∀ q, q < w.heap.size -> q ≠ bk -> ¬ U q -> L.ownBlock ≠ some q -> w'.heap[q]? = w.heap[q]?
 new : ∀ q, U' q -> U q \/ L.ownBlock = some q \/ w.heap.size <= q
theorem Took.refl (w : World) (bk : Nat) (U : Nat -> Prop) (L : Value) : Took w w bk U U L := ⟨Nat.le_refl _, rfl, rfl, rfl, fun _ _ => rfl, fun _ _ _ _ _ => rfl, fun _ h => .inl h⟩
theorem KBIs.more1 {w w' : World} {bk k m1 : Nat} {R1 : Value} {p1 : Nat -> Kp.Pg} {m2 : Nat} {R2 : Value} {p2 : Nat -> Kt.Pg} {m3 : Nat} {R3 : Value} {p3 : Nat -> Kf.Pg} {U : Nat -> Prop} {L : Value} {s : Nat} (h : KBIs w bk k m1 R1 p1 m2 R2 p2 m3 R3 p3 U) (hm : m1 < 96) (hL : ∀ q, L.ownBlock = some q -> q ≠ bk /\ q ≠ 0 /\ q < w.heap.size /\ ¬ U q) (hw : Kp.More w w' bk m1 k R1 p1 L s) : ∃ R' P, P.s = s /\ KBIs w' bk (k + 1) (m1 + 1) R' (Kp.upd p1 m1 P) m2 R2 p2 m3 R3 p3 (fun q => U q \/ L.ownBlock = some q \/ (w.heap.size <= q /\ q < w'.heap.size)) /\ Took w w' bk U (fun q => U q \/ L.ownBlock = some q \/ (w.heap.size <= q /\ q < w'.heap.size)) L := by
 obtain ⟨R', P, hs, hk, c0, ci, hfp, hz, os, tp, ou, hblk⟩ := hw
 have hbl := h.b1.lt
 have h0 : w'.heap[0]? = w.heap[0]? := hblk 0 h.b2.tab.lt (fun e => h.b2.b3 e.symm) (fun hq => (h.ul 0 (h.u1 0 hq)).2.1 rfl) (fun e => (hL 0 e).2.1 rfl)
 have cf : ∀ j, w'.frozen? ⟨bk, j, none⟩ = w.frozen? ⟨bk, j, none⟩ := fun j => (hk.fz j).trans (h.b1.fz j).symm
 have B2 : Kt.KindAt w' bk m2 R2 p2 := h.b2.on hz (ci _ (by omega) (by omega)) cf (fun q hq => hblk q (h.b2.fp hq).2 (h.b2.fp hq).1 (fun z => h.d12 q z hq) (fun e => (hL q e).2.2.2 (h.u2 q hq))) h0
 have B3 : Kf.KindAt w' bk m3 R3 p3 := h.b3.on hz (ci _ (by omega) (by omega)) cf (fun q hq => hblk q (h.b3.fp hq).2 (h.b3.fp hq).1 (fun z => h.d13 q z hq) (fun e => (hL q e).2.2.2 (h.u3 q hq))) h0
 refine ⟨R', P, hs, ⟨by rw [c0]; simp, hk, B2, B3, (by omega), h.l2, h.l3, by have := h.lk; omega, fun j h1 h2 h3 h4 h5 => (ci j (by omega) (by omega)).trans (h.bare j h1 h2 h3 h4 h5), (fun q hq hq' => (hfp q hq).elim (fun e => h.d12 q e hq') (fun e => e.elim (fun e => (hL q e).2.2.2 (h.u2 q hq')) (fun e => by have := (h.b2.fp hq').2; omega))), (fun q hq hq' => (hfp q hq).elim (fun e => h.d13 q e hq') (fun e => e.elim (fun e => (hL q e).2.2.2 (h.u3 q hq')) (fun e => by have := (h.b3.fp hq').2; omega))), h.d23, (fun q hq => (hfp q hq).imp (h.u1 q) (fun e => e.imp id (fun e => ⟨e, (hk.fp hq).2⟩))), (fun q hq => .inl (h.u2 q hq)), (fun q hq => .inl (h.u3 q hq)), ?_⟩, ⟨hz, os, tp, ou, fun j hj => ci j (by omega) (by omega), fun q hq h1 h2 h3 => hblk q hq h1 (fun e => h2 (h.u1 q e)) h3, fun q hq => hq.imp id (fun e => e.imp id (fun e => e.1))⟩⟩
 rintro q (hq | hq | hq)
 ·exact ⟨(h.ul q hq).1, (h.ul q hq).2.1, Nat.lt_of_lt_of_le (h.ul q hq).2.2 hz⟩
 ·exact ⟨(hL q hq).1, (hL q hq).2.1, Nat.lt_of_lt_of_le (hL q hq).2.2.1 hz⟩
 ·exact ⟨by omega, by omega, hq.2⟩
theorem KBIs.more2 {w w' : World} {bk k m1 : Nat} {R1 : Value} {p1 : Nat -> Kp.Pg} {m2 : Nat} {R2 : Value} {p2 : Nat -> Kt.Pg} {m3 : Nat} {R3 : Value} {p3 : Nat -> Kf.Pg} {U : Nat -> Prop} {L : Value} {s : Nat} (h : KBIs w bk k m1 R1 p1 m2 R2 p2 m3 R3 p3 U) (hm : m2 < 96) (hL : ∀ q, L.ownBlock = some q -> q ≠ bk /\ q ≠ 0 /\ q < w.heap.size /\ ¬ U q) (hw : Kt.More w w' bk m2 k R2 p2 L s) : ∃ R' P, P.s = s /\ KBIs w' bk (k + 1) m1 R1 p1 (m2 + 1) R' (Kt.upd p2 m2 P) m3 R3 p3 (fun q => U q \/ L.ownBlock = some q \/ (w.heap.size <= q /\ q < w'.heap.size)) /\ Took w w' bk U (fun q => U q \/ L.ownBlock = some q \/ (w.heap.size <= q /\ q < w'.heap.size)) L := by
 obtain ⟨R', P, hs, hk, c0, ci, hfp, hz, os, tp, ou, hblk⟩ := hw
 have hbl := h.b1.lt
 have h0 : w'.heap[0]? = w.heap[0]? := hblk 0 h.b2.tab.lt (fun e => h.b2.b3 e.symm) (fun hq => (h.ul 0 (h.u2 0 hq)).2.1 rfl) (fun e => (hL 0 e).2.1 rfl)
 have cf : ∀ j, w'.frozen? ⟨bk, j, none⟩ = w.frozen? ⟨bk, j, none⟩ := fun j => (hk.fz j).trans (h.b2.fz j).symm
 have B1 : Kp.KindAt w' bk m1 R1 p1 := h.b1.on hz (ci _ (by omega) (by omega)) cf (fun q hq => hblk q (h.b1.fp hq).2 (h.b1.fp hq).1 (h.d12 q hq) (fun e => (hL q e).2.2.2 (h.u1 q hq)))
 have B3 : Kf.KindAt w' bk m3 R3 p3 := h.b3.on hz (ci _ (by omega) (by omega)) cf (fun q hq => hblk q (h.b3.fp hq).2 (h.b3.fp hq).1 (fun z => h.d23 q z hq) (fun e => (hL q e).2.2.2 (h.u3 q hq))) h0
 refine ⟨R', P, hs, ⟨by rw [c0]; simp, B1, hk, B3, h.l1, (by omega), h.l3, by have := h.lk; omega, fun j h1 h2 h3 h4 h5 => (ci j (by omega) (by omega)).trans (h.bare j h1 h2 h3 h4 h5), (fun q hq hq' => (hfp q hq').elim (fun e => h.d12 q hq e) (fun e => e.elim (fun e => (hL q e).2.2.2 (h.u1 q hq)) (fun e => by have := (h.b1.fp hq).2; omega))), h.d13, (fun q hq hq' => (hfp q hq).elim (fun e => h.d23 q e hq') (fun e => e.elim (fun e => (hL q e).2.2.2 (h.u3 q hq')) (fun e => by have := (h.b3.fp hq').2; omega))), (fun q hq => .inl (h.u1 q hq)), (fun q hq => (hfp q hq).imp (h.u2 q) (fun e => e.imp id (fun e => ⟨e, (hk.fp hq).2⟩))), (fun q hq => .inl (h.u3 q hq)), ?_⟩, ⟨hz, os, tp, ou, fun j hj => ci j (by omega) (by omega), fun q hq h1 h2 h3 => hblk q hq h1 (fun e => h2 (h.u2 q e)) h3, fun q hq => hq.imp id (fun e => e.imp id (fun e => e.1))⟩⟩
 rintro q (hq | hq | hq)
 ·exact ⟨(h.ul q hq).1, (h.ul q hq).2.1, Nat.lt_of_lt_of_le (h.ul q hq).2.2 hz⟩
 ·exact ⟨(hL q hq).1, (hL q hq).2.1, Nat.lt_of_lt_of_le (hL q hq).2.2.1 hz⟩
 ·exact ⟨by omega, by omega, hq.2⟩
theorem KBIs.more3 {w w' : World} {bk k m1 : Nat} {R1 : Value} {p1 : Nat -> Kp.Pg} {m2 : Nat} {R2 : Value} {p2 : Nat -> Kt.Pg} {m3 : Nat} {R3 : Value} {p3 : Nat -> Kf.Pg} {U : Nat -> Prop} {L : Value} {s : Nat} (h : KBIs w bk k m1 R1 p1 m2 R2 p2 m3 R3 p3 U) (hm : m3 < 96) (hL : ∀ q, L.ownBlock = some q -> q ≠ bk /\ q ≠ 0 /\ q < w.heap.size /\ ¬ U q) (hw : Kf.More w w' bk m3 k R3 p3 L s) : ∃ R' P, P.s = s /\ KBIs w' bk (k + 1) m1 R1 p1 m2 R2 p2 (m3 + 1) R' (Kf.upd p3 m3 P) (fun q => U q \/ L.ownBlock = some q \/ (w.heap.size <= q /\ q < w'.heap.size)) /\ Took w w' bk U (fun q => U q \/ L.ownBlock = some q \/ (w.heap.size <= q /\ q < w'.heap.size)) L := by
 obtain ⟨R', P, hs, hk, c0, ci, hfp, hz, os, tp, ou, hblk⟩ := hw
 have hbl := h.b1.lt
 have h0 : w'.heap[0]? = w.heap[0]? := hblk 0 h.b2.tab.lt (fun e => h.b2.b3 e.symm) (fun hq => (h.ul 0 (h.u3 0 hq)).2.1 rfl) (fun e => (hL 0 e).2.1 rfl)
 have cf : ∀ j, w'.frozen? ⟨bk, j, none⟩ = w.frozen? ⟨bk, j, none⟩ := fun j => (hk.fz j).trans (h.b3.fz j).symm
 have B1 : Kp.KindAt w' bk m1 R1 p1 := h.b1.on hz (ci _ (by omega) (by omega)) cf (fun q hq => hblk q (h.b1.fp hq).2 (h.b1.fp hq).1 (h.d13 q hq) (fun e => (hL q e).2.2.2 (h.u1 q hq)))
 have B2 : Kt.KindAt w' bk m2 R2 p2 := h.b2.on hz (ci _ (by omega) (by omega)) cf (fun q hq => hblk q (h.b2.fp hq).2 (h.b2.fp hq).1 (h.d23 q hq) (fun e => (hL q e).2.2.2 (h.u2 q hq))) h0
 refine ⟨R', P, hs, ⟨by rw [c0]; simp, B1, B2, hk, h.l1, h.l2, (by omega), by have := h.lk; omega, fun j h1 h2 h3 h4 h5 => (ci j (by omega) (by omega)).trans (h.bare j h1 h2 h3 h4 h5), h.d12, (fun q hq hq' => (hfp q hq').elim (fun e => h.d13 q hq e) (fun e => e.elim (fun e => (hL q e).2.2.2 (h.u1 q hq)) (fun e => by have := (h.b1.fp hq).2; omega))), (fun q hq hq' => (hfp q hq').elim (fun e => h.d23 q hq e) (fun e => e.elim (fun e => (hL q e).2.2.2 (h.u2 q hq)) (fun e => by have := (h.b2.fp hq).2; omega))), (fun q hq => .inl (h.u1 q hq)), (fun q hq => .inl (h.u2 q hq)), (fun q hq => (hfp q hq).imp (h.u3 q) (fun e => e.imp id (fun e => ⟨e, (hk.fp hq).2⟩))), ?_⟩, ⟨hz, os, tp, ou, fun j hj => ci j (by omega) (by omega), fun q hq h1 h2 h3 => hblk q hq h1 (fun e => h2 (h.u3 q e)) h3, fun q hq => hq.imp id (fun e => e.imp id (fun e => e.1))⟩⟩
 rintro q (hq | hq | hq)
 ·exact ⟨(h.ul q hq).1, (h.ul q hq).2.1, Nat.lt_of_lt_of_le (h.ul q hq).2.2 hz⟩
 ·exact ⟨(hL q hq).1, (hL q hq).2.1, Nat.lt_of_lt_of_le (hL q hq).2.2.1 hz⟩
 ·exact ⟨by omega, by omega, hq.2⟩
end Go.Proofs.YtpeohbkigkfcgaaGreatDoor
namespace Go.Proofs.YtpeohbkigkfcgaaGreatDoor
open Go Go.ChangeShapes Go.WideShapes Go.ChangeAt Go.RowKit
attribute [local go_sem] setCell_drewN alloc_drewN
theorem KBIs.intact {w : World} {bk k m1 : Nat} {R1 : Value} {p1 : Nat -> Kp.Pg} {m2 : Nat} {R2 : Value} {p2 : Nat -> Kt.Pg} {m3 : Nat} {R3 : Value} {p3 : Nat -> Kf.Pg} {U : Nat -> Prop} (h : KBIs w bk k m1 R1 p1 m2 R2 p2 m3 R3 p3 U) (s1 : ∀ i, i < m1 -> (p1 i).s ≠ 1) (s2 : ∀ i, i < m2 -> (p2 i).s ≠ 1) (s3 : ∀ i, i < m3 -> (p3 i).s ≠ 1) : Calls Tryz.prog 8 #[.pointer (some ⟨bk, 6, none⟩)] w fun e w' => e = .returned (.bool true) /\ Below w.heap.size w w' := by
 have H0 := hide h
 have B0 : Hid (Below w.heap.size w w) := Below.refl _ _
 have S1 := hide s1
 have S2 := hide s2
 have S3 := hide s3
 clear h s1 s2 s3
 go_enter Tryz.func8, Tryz.ntmps8
 go_wp2_with fail
 refine (Kp.intact_book (uh H0).b1 (uh H0).l1 (uh S1)).mono ?_
 rintro e w1 ⟨rfl, hb⟩
 have H1 := hide ((uh H0).below hb)
 have B1 : Hid (Below w.heap.size w w1) := (uh B0).trans (hb.mono (uh B0).size)
 clear hb
 go_wp2_with fail
 refine (Kp.intact2 bk w1 ((uh H1).bare 8 (by omega) (by omega) (by omega) (by omega) (by omega))).mono ?_
 rintro e wz ⟨rfl, hw⟩
 rw [hw]
 clear hw wz
 go_wp2_with fail
 refine (Kp.intact3 bk w1 ((uh H1).bare 9 (by omega) (by omega) (by omega) (by omega) (by omega))).mono ?_
 rintro e wz ⟨rfl, hw⟩
 rw [hw]
 clear hw wz
 go_wp2_with fail
 refine (Kt.intact_book (uh H1).b2 (uh H1).l2 (uh S2)).mono ?_
 rintro e w2 ⟨rfl, hb⟩
 have H2 := hide ((uh H1).below hb)
 have B2 : Hid (Below w.heap.size w w2) := (uh B1).trans (hb.mono (uh B1).size)
 clear hb
 go_wp2_with fail
 refine (Kp.intact5 bk w2 ((uh H2).bare 11 (by omega) (by omega) (by omega) (by omega) (by omega))).mono ?_
 rintro e wz ⟨rfl, hw⟩
 rw [hw]
 clear hw wz
 go_wp2_with fail
 refine (Kp.intact6 bk w2 ((uh H2).bare 12 (by omega) (by omega) (by omega) (by omega) (by omega))).mono ?_
 rintro e wz ⟨rfl, hw⟩
 rw [hw]
 clear hw wz
 go_wp2_with fail
 refine (Kp.intact7 bk w2 ((uh H2).bare 13 (by omega) (by omega) (by omega) (by omega) (by omega))).mono ?_
 rintro e wz ⟨rfl, hw⟩
 rw [hw]
 clear hw wz
 go_wp2_with fail
 refine (Kp.intact8 bk w2 ((uh H2).bare 14 (by omega) (by omega) (by omega) (by omega) (by omega))).mono ?_
 rintro e wz ⟨rfl, hw⟩
 rw [hw]
 clear hw wz
 go_wp2_with fail
 refine (Kp.intact9 bk w2 ((uh H2).bare 15 (by omega) (by omega) (by omega) (by omega) (by omega))).mono ?_
 rintro e wz ⟨rfl, hw⟩
 rw [hw]
 clear hw wz
 go_wp2_with fail
 refine (Kp.intact10 bk w2 ((uh H2).bare 16 (by omega) (by omega) (by omega) (by omega) (by omega))).mono ?_
 rintro e wz ⟨rfl, hw⟩
 rw [hw]
 clear hw wz
 go_wp2_with fail
 refine (Kp.intact11 bk w2 ((uh H2).bare 17 (by omega) (by omega) (by omega) (by omega) (by omega))).mono ?_
 rintro e wz ⟨rfl, hw⟩
 rw [hw]
 clear hw wz
 go_wp2_with fail
 refine (Kp.intact12 bk w2 ((uh H2).bare 18 (by omega) (by omega) (by omega) (by omega) (by omega))).mono ?_
 rintro e wz ⟨rfl, hw⟩
 rw [hw]
 clear hw wz
 go_wp2_with fail
 refine (Kp.intact13 bk w2 ((uh H2).bare 19 (by omega) (by omega) (by omega) (by omega) (by omega))).mono ?_
 rintro e wz ⟨rfl, hw⟩
 rw [hw]
 clear hw wz
 go_wp2_with fail
 refine (Kp.intact14 bk w2 ((uh H2).bare 20 (by omega) (by omega) (by omega) (by omega) (by omega))).mono ?_
 rintro e wz ⟨rfl, hw⟩
 rw [hw]
 clear hw wz
 go_wp2_with fail
 refine (Kp.intact15 bk w2 ((uh H2).bare 21 (by omega) (by omega) (by omega) (by omega) (by omega))).mono ?_
 rintro e wz ⟨rfl, hw⟩
 rw [hw]
 clear hw wz
 go_wp2_with fail
 refine (Kp.intact16 bk w2 ((uh H2).bare 22 (by omega) (by omega) (by omega) (by omega) (by omega))).mono ?_
 rintro e wz ⟨rfl, hw⟩
 rw [hw]
 clear hw wz
 go_wp2_with fail
 refine (Kp.intact17 bk w2 ((uh H2).bare 23 (by omega) (by omega) (by omega) (by omega) (by omega))).mono ?_
 rintro e wz ⟨rfl, hw⟩
 rw [hw]
 clear hw wz
 go_wp2_with fail
 refine (Kf.intact_book (uh H2).b3 (uh H2).l3 (uh S3)).mono ?_
 rintro e w3 ⟨rfl, hb⟩
 have H3 := hide ((uh H2).below hb)
 have B3 : Hid (Below w.heap.size w w3) := (uh B2).trans (hb.mono (uh B2).size)
 clear hb
 go_wp2_with fail
 refine (Kp.intact19 bk w3 ((uh H3).bare 25 (by omega) (by omega) (by omega) (by omega) (by omega))).mono ?_
 rintro e wz ⟨rfl, hw⟩
 rw [hw]
 clear hw wz
 go_wp2_with fail
 refine (Kp.intact20 bk w3 ((uh H3).bare 26 (by omega) (by omega) (by omega) (by omega) (by omega))).mono ?_
 rintro e wz ⟨rfl, hw⟩
 rw [hw]
 clear hw wz
 go_wp2_with fail
 go_ret
 exact ⟨rfl, uh B3⟩
theorem KBIs.settle {w : World} {bk k m1 : Nat} {R1 : Value} {p1 : Nat -> Kp.Pg} {m2 : Nat} {R2 : Value} {p2 : Nat -> Kt.Pg} {m3 : Nat} {R3 : Value} {p3 : Nat -> Kf.Pg} {U : Nat -> Prop} (h : KBIs w bk k m1 R1 p1 m2 R2 p2 m3 R3 p3 U) (s1 : ∀ i, i < m1 -> (p1 i).s ≠ 1) (s2 : ∀ i, i < m2 -> (p2 i).s ≠ 1) (s3 : ∀ i, i < m3 -> (p3 i).s ≠ 1) : Calls Tryz.prog 14 #[.pointer (some ⟨bk, 6, none⟩)] w fun e w' => e = .returned (.bool true) /\ ∃ q1 q2 q3 U', KBIs w' bk k m1 R1 q1 m2 R2 q2 m3 R3 q3 U' /\ (∀ i, i < m1 -> (q1 i).s ≠ 1) /\ (∀ i, i < m2 -> (q2 i).s ≠ 1) /\ (∀ i, i < m3 -> (q3 i).s ≠ 1) /\ Sep w w' U U' := by
 have H0 := hide h
 have hI := hide (h.intact s1 s2 s3)
 clear h s1 s2 s3
 go_enter Tryz.func14, Tryz.ntmps14
 go_wp2_with fail
 refine (uh hI).mono ?_
 rintro e w1 ⟨rfl, hb⟩
 have H1 := hide ((uh H0).below hb)
 have E1 := hide (Sep.of_below U hb)
 obtain ⟨U1, hU1⟩ : ∃ U1, U1 = U := ⟨_, rfl⟩
 rw [<- hU1] at H1
 have E1 : Hid (Sep w w1 U U1) := by rw [hU1]; exact uh E1
 clear hb hI hU1
 go_wp2_with fail
 refine (Kp.fill_book (uh H1).b1 (uh H1).l1).mono ?_
 rintro e w2 ⟨rfl, f1, hw, hs⟩
 obtain ⟨U2, hu, he⟩ : ∃ U', _ /\ Sep w1 w2 U1 U' := ⟨_, (uh H1).went1 hw⟩
 have H2 := hide hu
 have E2 := hide ((uh E1).trans he)
 have F1 := hide hs
 clear hw hu he hs
 go_wp2_with fail
 refine (Kp.fill2 bk w2 ((uh H2).bare 8 (by omega) (by omega) (by omega) (by omega) (by omega))).mono ?_
 rintro e wz ⟨rfl, hw⟩
 rw [hw]
 clear hw wz
 go_wp2_with fail
 refine (Kp.fill3 bk w2 ((uh H2).bare 9 (by omega) (by omega) (by omega) (by omega) (by omega))).mono ?_
 rintro e wz ⟨rfl, hw⟩
 rw [hw]
 clear hw wz
 go_wp2_with fail
 refine (Kt.fill_book (uh H2).b2 (uh H2).l2).mono ?_
 rintro e w3 ⟨rfl, f2, hw, hs⟩
 obtain ⟨U3, hu, he⟩ : ∃ U', _ /\ Sep w2 w3 U2 U' := ⟨_, (uh H2).went2 hw⟩
 have H3 := hide hu
 have E3 := hide ((uh E2).trans he)
 have F2 := hide hs
 clear hw hu he hs
 go_wp2_with fail
 refine (Kp.fill5 bk w3 ((uh H3).bare 11 (by omega) (by omega) (by omega) (by omega) (by omega))).mono ?_
 rintro e wz ⟨rfl, hw⟩
 rw [hw]
 clear hw wz
 go_wp2_with fail
 refine (Kp.fill6 bk w3 ((uh H3).bare 12 (by omega) (by omega) (by omega) (by omega) (by omega))).mono ?_
 rintro e wz ⟨rfl, hw⟩
 rw [hw]
 clear hw wz
 go_wp2_with fail
 refine (Kp.fill7 bk w3 ((uh H3).bare 13 (by omega) (by omega) (by omega) (by omega) (by omega))).mono ?_
 rintro e wz ⟨rfl, hw⟩
 rw [hw]
 clear hw wz
 go_wp2_with fail
 refine (Kp.fill8 bk w3 ((uh H3).bare 14 (by omega) (by omega) (by omega) (by omega) (by omega))).mono ?_
 rintro e wz ⟨rfl, hw⟩
 rw [hw]
 clear hw wz
 go_wp2_with fail
 refine (Kp.fill9 bk w3 ((uh H3).bare 15 (by omega) (by omega) (by omega) (by omega) (by omega))).mono ?_
 rintro e wz ⟨rfl, hw⟩
 rw [hw]
 clear hw wz
 go_wp2_with fail
 refine (Kp.fill10 bk w3 ((uh H3).bare 16 (by omega) (by omega) (by omega) (by omega) (by omega))).mono ?_
 rintro e wz ⟨rfl, hw⟩
 rw [hw]
 clear hw wz
 go_wp2_with fail
 refine (Kp.fill11 bk w3 ((uh H3).bare 17 (by omega) (by omega) (by omega) (by omega) (by omega))).mono ?_
 rintro e wz ⟨rfl, hw⟩
 rw [hw]
 clear hw wz
 go_wp2_with fail
 refine (Kp.fill12 bk w3 ((uh H3).bare 18 (by omega) (by omega) (by omega) (by omega) (by omega))).mono ?_
 rintro e wz ⟨rfl, hw⟩
 rw [hw]
 clear hw wz
 go_wp2_with fail
 refine (Kp.fill13 bk w3 ((uh H3).bare 19 (by omega) (by omega) (by omega) (by omega) (by omega))).mono ?_
 rintro e wz ⟨rfl, hw⟩
 rw [hw]
 clear hw wz
 go_wp2_with fail
 refine (Kp.fill14 bk w3 ((uh H3).bare 20 (by omega) (by omega) (by omega) (by omega) (by omega))).mono ?_
 rintro e wz ⟨rfl, hw⟩
 rw [hw]
 clear hw wz
 go_wp2_with fail
 refine (Kp.fill15 bk w3 ((uh H3).bare 21 (by omega) (by omega) (by omega) (by omega) (by omega))).mono ?_
 rintro e wz ⟨rfl, hw⟩
 rw [hw]
 clear hw wz
 go_wp2_with fail
 refine (Kp.fill16 bk w3 ((uh H3).bare 22 (by omega) (by omega) (by omega) (by omega) (by omega))).mono ?_
 rintro e wz ⟨rfl, hw⟩
 rw [hw]
 clear hw wz
 go_wp2_with fail
 refine (Kp.fill17 bk w3 ((uh H3).bare 23 (by omega) (by omega) (by omega) (by omega) (by omega))).mono ?_
 rintro e wz ⟨rfl, hw⟩
 rw [hw]
 clear hw wz
 go_wp2_with fail
 refine (Kf.fill_book (uh H3).b3 (uh H3).l3).mono ?_
 rintro e w4 ⟨rfl, f3, hw, hs⟩
 obtain ⟨U4, hu, he⟩ : ∃ U', _ /\ Sep w3 w4 U3 U' := ⟨_, (uh H3).went3 hw⟩
 have H4 := hide hu
 have E4 := hide ((uh E3).trans he)
 have F3 := hide hs
 clear hw hu he hs
 go_wp2_with fail
 refine (Kp.fill19 bk w4 ((uh H4).bare 25 (by omega) (by omega) (by omega) (by omega) (by omega))).mono ?_
 rintro e wz ⟨rfl, hw⟩
 rw [hw]
 clear hw wz
 go_wp2_with fail
 refine (Kp.fill20 bk w4 ((uh H4).bare 26 (by omega) (by omega) (by omega) (by omega) (by omega))).mono ?_
 rintro e wz ⟨rfl, hw⟩
 rw [hw]
 clear hw wz
 go_wp2_with fail
 refine (Kp.grow_book (uh H4).b1 (uh H4).l1 (uh F1)).mono ?_
 rintro e w5 ⟨rfl, g1, hw, hs⟩
 obtain ⟨U5, hu, he⟩ : ∃ U', _ /\ Sep w4 w5 U4 U' := ⟨_, (uh H4).went1 hw⟩
 have H5 := hide hu
 have E5 := hide ((uh E4).trans he)
 have G1 := hide hs
 clear hw hu he hs
 go_wp2_with fail
 refine (Kp.grow2 bk w5 ((uh H5).bare 8 (by omega) (by omega) (by omega) (by omega) (by omega))).mono ?_
 rintro e wz ⟨rfl, hw⟩
 rw [hw]
 clear hw wz
 go_wp2_with fail
 refine (Kp.grow3 bk w5 ((uh H5).bare 9 (by omega) (by omega) (by omega) (by omega) (by omega))).mono ?_
 rintro e wz ⟨rfl, hw⟩
 rw [hw]
 clear hw wz
 go_wp2_with fail
 refine (Kt.grow_book (uh H5).b2 (uh H5).l2 (uh F2)).mono ?_
 rintro e w6 ⟨rfl, g2, hw, hs⟩
 obtain ⟨U6, hu, he⟩ : ∃ U', _ /\ Sep w5 w6 U5 U' := ⟨_, (uh H5).went2 hw⟩
 have H6 := hide hu
 have E6 := hide ((uh E5).trans he)
 have G2 := hide hs
 clear hw hu he hs
 go_wp2_with fail
 refine (Kp.grow5 bk w6 ((uh H6).bare 11 (by omega) (by omega) (by omega) (by omega) (by omega))).mono ?_
 rintro e wz ⟨rfl, hw⟩
 rw [hw]
 clear hw wz
 go_wp2_with fail
 refine (Kp.grow6 bk w6 ((uh H6).bare 12 (by omega) (by omega) (by omega) (by omega) (by omega))).mono ?_
 rintro e wz ⟨rfl, hw⟩
 rw [hw]
 clear hw wz
 go_wp2_with fail
 refine (Kp.grow7 bk w6 ((uh H6).bare 13 (by omega) (by omega) (by omega) (by omega) (by omega))).mono ?_
 rintro e wz ⟨rfl, hw⟩
 rw [hw]
 clear hw wz
 go_wp2_with fail
 refine (Kp.grow8 bk w6 ((uh H6).bare 14 (by omega) (by omega) (by omega) (by omega) (by omega))).mono ?_
 rintro e wz ⟨rfl, hw⟩
 rw [hw]
 clear hw wz
 go_wp2_with fail
 refine (Kp.grow9 bk w6 ((uh H6).bare 15 (by omega) (by omega) (by omega) (by omega) (by omega))).mono ?_
 rintro e wz ⟨rfl, hw⟩
 rw [hw]
 clear hw wz
 go_wp2_with fail
 refine (Kp.grow10 bk w6 ((uh H6).bare 16 (by omega) (by omega) (by omega) (by omega) (by omega))).mono ?_
 rintro e wz ⟨rfl, hw⟩
 rw [hw]
 clear hw wz
 go_wp2_with fail
 refine (Kp.grow11 bk w6 ((uh H6).bare 17 (by omega) (by omega) (by omega) (by omega) (by omega))).mono ?_
 rintro e wz ⟨rfl, hw⟩
 rw [hw]
 clear hw wz
 go_wp2_with fail
 refine (Kp.grow12 bk w6 ((uh H6).bare 18 (by omega) (by omega) (by omega) (by omega) (by omega))).mono ?_
 rintro e wz ⟨rfl, hw⟩
 rw [hw]
 clear hw wz
 go_wp2_with fail
 refine (Kp.grow13 bk w6 ((uh H6).bare 19 (by omega) (by omega) (by omega) (by omega) (by omega))).mono ?_
 rintro e wz ⟨rfl, hw⟩
 rw [hw]
 clear hw wz
 go_wp2_with fail
 refine (Kp.grow14 bk w6 ((uh H6).bare 20 (by omega) (by omega) (by omega) (by omega) (by omega))).mono ?_
 rintro e wz ⟨rfl, hw⟩
 rw [hw]
 clear hw wz
 go_wp2_with fail
 refine (Kp.grow15 bk w6 ((uh H6).bare 21 (by omega) (by omega) (by omega) (by omega) (by omega))).mono ?_
 rintro e wz ⟨rfl, hw⟩
 rw [hw]
 clear hw wz
 go_wp2_with fail
 refine (Kp.grow16 bk w6 ((uh H6).bare 22 (by omega) (by omega) (by omega) (by omega) (by omega))).mono ?_
 rintro e wz ⟨rfl, hw⟩
 rw [hw]
 clear hw wz
 go_wp2_with fail
 refine (Kp.grow17 bk w6 ((uh H6).bare 23 (by omega) (by omega) (by omega) (by omega) (by omega))).mono ?_
 rintro e wz ⟨rfl, hw⟩
 rw [hw]
 clear hw wz
 go_wp2_with fail
 refine (Kf.grow_book (uh H6).b3 (uh H6).l3 (uh F3)).mono ?_
 rintro e w7 ⟨rfl, g3, hw, hs⟩
 obtain ⟨U7, hu, he⟩ : ∃ U', _ /\ Sep w6 w7 U6 U' := ⟨_, (uh H6).went3 hw⟩
 have H7 := hide hu
 have E7 := hide ((uh E6).trans he)
 have G3 := hide hs
 clear hw hu he hs
 go_wp2_with fail
 refine (Kp.grow19 bk w7 ((uh H7).bare 25 (by omega) (by omega) (by omega) (by omega) (by omega))).mono ?_
 rintro e wz ⟨rfl, hw⟩
 rw [hw]
 clear hw wz
 go_wp2_with fail
 refine (Kp.grow20 bk w7 ((uh H7).bare 26 (by omega) (by omega) (by omega) (by omega) (by omega))).mono ?_
 rintro e wz ⟨rfl, hw⟩
 rw [hw]
 clear hw wz
 go_wp2_with fail
 refine ((uh H7).intact (fun i hi => by rw [uh G1 i hi]; omega) (fun i hi => by rw [uh G2 i hi]; omega) (fun i hi => by rw [uh G3 i hi]; omega)).mono ?_
 rintro e w8 ⟨rfl, hb⟩
 have H8 := hide ((uh H7).below hb)
 have E8 := hide ((uh E7).trans (Sep.of_below U7 hb))
 clear hb
 go_wp2_with fail
 go_ret
 exact ⟨rfl, g1, g2, g3, U7, uh H8, (fun i hi => by rw [uh G1 i hi]; omega), (fun i hi => by rw [uh G2 i hi]; omega), (fun i hi => by rw [uh G3 i hi]; omega), uh E8⟩
def KB (w : World) (bk : Nat) (U : Nat -> Prop) : Prop := ∃ k m1 R1 p1 m2 R2 p2 m3 R3 p3, KBIs w bk k m1 R1 p1 m2 R2 p2 m3 R3 p3 U /\ (∀ i, i < m1 -> (p1 i).s ≠ 1) /\ (∀ i, i < m2 -> (p2 i).s ≠ 1) /\ (∀ i, i < m3 -> (p3 i).s ≠ 1)
theorem KB.on {w w' : World} {bk : Nat} {U : Nat -> Prop} (h : KB w bk U) (hz : w.heap.size <= w'.heap.size) (hc : ∀ j, 6 <= j -> w'.cell? ⟨bk, j, none⟩ = w.cell? ⟨bk, j, none⟩) (cf : ∀ j, w'.frozen? ⟨bk, j, none⟩ = w.frozen? ⟨bk, j, none⟩) (h0 : w'.heap[0]? = w.heap[0]?) (hU : ∀ q, U q -> w'.heap[q]? = w.heap[q]?) : KB w' bk U := by
 obtain ⟨k, m1, R1, p1, m2, R2, p2, m3, R3, p3, h, s⟩ := h
 exact ⟨k, m1, R1, p1, m2, R2, p2, m3, R3, p3, h.on hz hc cf h0 hU, s⟩
theorem KB.below {w w' : World} {bk : Nat} {U : Nat -> Prop} (h : KB w bk U) (hb : Below w.heap.size w w') : KB w' bk U := by
 obtain ⟨k, m1, R1, p1, m2, R2, p2, m3, R3, p3, h, s⟩ := h
 exact ⟨k, m1, R1, p1, m2, R2, p2, m3, R3, p3, h.below hb, s⟩
theorem KB.ul {w : World} {bk : Nat} {U : Nat -> Prop} (h : KB w bk U) : ∀ q, U q -> q ≠ bk /\ q ≠ 0 /\ q < w.heap.size := by
 obtain ⟨k, m1, R1, p1, m2, R2, p2, m3, R3, p3, h, s⟩ := h
 exact h.ul
theorem KB.lt {w : World} {bk : Nat} {U : Nat -> Prop} (h : KB w bk U) : bk < w.heap.size := by
 obtain ⟨k, m1, R1, p1, m2, R2, p2, m3, R3, p3, h, s⟩ := h
 exact h.b1.lt
theorem KB.tab {w : World} {bk : Nat} {U : Nat -> Prop} (h : KB w bk U) : Kt.Pw w := by
 obtain ⟨k, m1, R1, p1, m2, R2, p2, m3, R3, p3, h, s⟩ := h
 exact h.b2.tab
theorem KB.fz {w : World} {bk : Nat} {U : Nat -> Prop} (h : KB w bk U) : ∀ j, w.frozen? ⟨bk, j, none⟩ = false := by
 obtain ⟨k, m1, R1, p1, m2, R2, p2, m3, R3, p3, h, s⟩ := h
 exact h.b1.fz
theorem KB.intact {w : World} {bk : Nat} {U : Nat -> Prop} (h : KB w bk U) : Calls Tryz.prog 8 #[.pointer (some ⟨bk, 6, none⟩)] w fun e w' => e = .returned (.bool true) /\ Below w.heap.size w w' := by
 obtain ⟨k, m1, R1, p1, m2, R2, p2, m3, R3, p3, h, s1, s2, s3⟩ := h
 exact h.intact s1 s2 s3
theorem KB.settle {w : World} {bk : Nat} {U : Nat -> Prop} (h : KB w bk U) : Calls Tryz.prog 14 #[.pointer (some ⟨bk, 6, none⟩)] w fun e w' => e = .returned (.bool true) /\ ∃ U', KB w' bk U' /\ Sep w w' U U' := by
 obtain ⟨k, m1, R1, p1, m2, R2, p2, m3, R3, p3, h, s1, s2, s3⟩ := h
 refine (h.settle s1 s2 s3).mono ?_
 rintro e w' ⟨rfl, q1, q2, q3, U', h', t1, t2, t3, he⟩
 exact ⟨rfl, U', ⟨k, m1, R1, q1, m2, R2, q2, m3, R3, q3, h', t1, t2, t3⟩, he⟩
theorem KB.keepB {w : World} {bk : Nat} {U : Nat -> Prop} (h : KB w bk U) {L : Value} {n : Nat} {f : Nat -> Nat} (own : w.ownsRow 0 5 1 L n (Kp.bcells f n)) (le : n <= 1048576) (hL : ∀ q, L.ownBlock = some q -> q ≠ bk /\ q ≠ 0 /\ ¬ U q) : Calls Tryz.prog 112 #[.pointer (some ⟨bk, 6, none⟩), L] w fun e w' => e = .returned (.tuple #[]) /\ ∃ U', KB w' bk U' /\ Took w w' bk U U' L := by
 obtain ⟨k, m1, R1, p1, m2, R2, p2, m3, R3, p3, h, s1, s2, s3⟩ := h
 have hL' : ∀ q, L.ownBlock = some q -> q ≠ bk /\ q ≠ 0 /\ q < w.heap.size /\ ¬ U q := fun q hq => ⟨(hL q hq).1, (hL q hq).2.1, (own.lt q hq).2, (hL q hq).2.2⟩
 by_cases hm : m1 < 96
 ·have hM : Kp.Mine w bk m1 R1 p1 L n f := ⟨own, le, fun q hq => ⟨(hL q hq).1, fun e => (hL q hq).2.2 (h.u1 q e)⟩⟩
  refine (Kp.keep_more h.b1 h.c0 hM (by have := h.lk; have := h.l1; have := h.l2; have := h.l3; omega) hm).mono ?_
  rintro e w' ⟨rfl, hmore⟩
  obtain ⟨R', P, hP, hK, hT⟩ := h.more1 hm hL' hmore
  exact ⟨rfl, _, ⟨k + 1, m1 + 1, R', Kp.upd p1 m1 P, m2, R2, p2, m3, R3, p3, hK, (fun i hi => (Nat.lt_or_ge i m1).elim (fun e => by rw [Kp.upd_other _ _ _ _ (by omega)]; exact s1 i e) (fun e => by have e' : i = m1 := (by omega); rw [e', Kp.upd_same, hP]; omega)), s2, s3⟩, hT⟩
 ·obtain ⟨pa, pc, hR, _⟩ := Kp.book_row h.b1
  have c1 := h.b1.c1
  rw [hR] at c1
  refine (Kp.keep_full bk m1 pc pa (by omega) w c1 L).mono ?_
  rintro e w' ⟨rfl, hw⟩
  rw [hw]
  exact ⟨rfl, U, ⟨k, m1, R1, p1, m2, R2, p2, m3, R3, p3, h, s1, s2, s3⟩, Took.refl _ _ _ _⟩
theorem KB.writeB {w : World} {bk : Nat} {U : Nat -> Prop} (h : KB w bk U) {L : Value} {n : Nat} {f : Nat -> Nat} (own : w.ownsRow 0 5 1 L n (Kp.bcells f n)) (le : n <= 1048576) (hL : ∀ q, L.ownBlock = some q -> q ≠ bk /\ q ≠ 0 /\ ¬ U q) : Calls Tryz.prog 113 #[.pointer (some ⟨bk, 6, none⟩), L] w fun e w' => e = .returned (.tuple #[]) /\ ∃ U', KB w' bk U' /\ Took w w' bk U U' L := by
 obtain ⟨k, m1, R1, p1, m2, R2, p2, m3, R3, p3, h, s1, s2, s3⟩ := h
 have hL' : ∀ q, L.ownBlock = some q -> q ≠ bk /\ q ≠ 0 /\ q < w.heap.size /\ ¬ U q := fun q hq => ⟨(hL q hq).1, (hL q hq).2.1, (own.lt q hq).2, (hL q hq).2.2⟩
 by_cases hm : m1 < 96
 ·have hM : Kp.Mine w bk m1 R1 p1 L n f := ⟨own, le, fun q hq => ⟨(hL q hq).1, fun e => (hL q hq).2.2 (h.u1 q e)⟩⟩
  refine (Kp.write_more h.b1 h.c0 hM (by have := h.lk; have := h.l1; have := h.l2; have := h.l3; omega) hm).mono ?_
  rintro e w' ⟨rfl, hmore⟩
  obtain ⟨R', P, hP, hK, hT⟩ := h.more1 hm hL' hmore
  exact ⟨rfl, _, ⟨k + 1, m1 + 1, R', Kp.upd p1 m1 P, m2, R2, p2, m3, R3, p3, hK, (fun i hi => (Nat.lt_or_ge i m1).elim (fun e => by rw [Kp.upd_other _ _ _ _ (by omega)]; exact s1 i e) (fun e => by have e' : i = m1 := (by omega); rw [e', Kp.upd_same, hP]; omega)), s2, s3⟩, hT⟩
 ·obtain ⟨pa, pc, hR, _⟩ := Kp.book_row h.b1
  have c1 := h.b1.c1
  rw [hR] at c1
  refine (Kp.write_full bk m1 pc pa (by omega) w c1 L).mono ?_
  rintro e w' ⟨rfl, hw⟩
  rw [hw]
  exact ⟨rfl, U, ⟨k, m1, R1, p1, m2, R2, p2, m3, R3, p3, h, s1, s2, s3⟩, Took.refl _ _ _ _⟩
theorem KB.keepT {w : World} {bk : Nat} {U : Nat -> Prop} (h : KB w bk U) {L : Value} {n : Nat} {f : Nat -> ByteArray} (own : w.ownsRow 0 9 1 L n (Kt.scells f n)) (le : n <= 4096) (hL : ∀ q, L.ownBlock = some q -> q ≠ bk /\ q ≠ 0 /\ ¬ U q) : Calls Tryz.prog 118 #[.pointer (some ⟨bk, 6, none⟩), L] w fun e w' => e = .returned (.tuple #[]) /\ ∃ U', KB w' bk U' /\ Took w w' bk U U' L := by
 obtain ⟨k, m1, R1, p1, m2, R2, p2, m3, R3, p3, h, s1, s2, s3⟩ := h
 have hL' : ∀ q, L.ownBlock = some q -> q ≠ bk /\ q ≠ 0 /\ q < w.heap.size /\ ¬ U q := fun q hq => ⟨(hL q hq).1, (hL q hq).2.1, (own.lt q hq).2, (hL q hq).2.2⟩
 by_cases hm : m2 < 96
 ·have hM : Kt.Mine w bk m2 R2 p2 L n f := ⟨own, le, fun q hq => ⟨(hL q hq).1, fun e => (hL q hq).2.2 (h.u2 q e)⟩, fun e => (hL 0 e).2.1 rfl⟩
  refine (Kt.keep_more h.b2 h.c0 hM (by have := h.lk; have := h.l1; have := h.l2; have := h.l3; omega) hm).mono ?_
  rintro e w' ⟨rfl, hmore⟩
  obtain ⟨R', P, hP, hK, hT⟩ := h.more2 hm hL' hmore
  exact ⟨rfl, _, ⟨k + 1, m1, R1, p1, m2 + 1, R', Kt.upd p2 m2 P, m3, R3, p3, hK, s1, (fun i hi => (Nat.lt_or_ge i m2).elim (fun e => by rw [Kt.upd_other _ _ _ _ (by omega)]; exact s2 i e) (fun e => by have e' : i = m2 := (by omega); rw [e', Kt.upd_same, hP]; omega)), s3⟩, hT⟩
 ·obtain ⟨pa, pc, hR, _⟩ := Kt.book_row h.b2
  have c1 := h.b2.c1
  rw [hR] at c1
  refine (Kt.keep_full bk m2 pc pa (by omega) w c1 L).mono ?_
  rintro e w' ⟨rfl, hw⟩
  rw [hw]
  exact ⟨rfl, U, ⟨k, m1, R1, p1, m2, R2, p2, m3, R3, p3, h, s1, s2, s3⟩, Took.refl _ _ _ _⟩
theorem KB.writeT {w : World} {bk : Nat} {U : Nat -> Prop} (h : KB w bk U) {L : Value} {n : Nat} {f : Nat -> ByteArray} (own : w.ownsRow 0 9 1 L n (Kt.scells f n)) (le : n <= 4096) (hL : ∀ q, L.ownBlock = some q -> q ≠ bk /\ q ≠ 0 /\ ¬ U q) : Calls Tryz.prog 119 #[.pointer (some ⟨bk, 6, none⟩), L] w fun e w' => e = .returned (.tuple #[]) /\ ∃ U', KB w' bk U' /\ Took w w' bk U U' L := by
 obtain ⟨k, m1, R1, p1, m2, R2, p2, m3, R3, p3, h, s1, s2, s3⟩ := h
 have hL' : ∀ q, L.ownBlock = some q -> q ≠ bk /\ q ≠ 0 /\ q < w.heap.size /\ ¬ U q := fun q hq => ⟨(hL q hq).1, (hL q hq).2.1, (own.lt q hq).2, (hL q hq).2.2⟩
 by_cases hm : m2 < 96
 ·have hM : Kt.Mine w bk m2 R2 p2 L n f := ⟨own, le, fun q hq => ⟨(hL q hq).1, fun e => (hL q hq).2.2 (h.u2 q e)⟩, fun e => (hL 0 e).2.1 rfl⟩
  refine (Kt.write_more h.b2 h.c0 hM (by have := h.lk; have := h.l1; have := h.l2; have := h.l3; omega) hm).mono ?_
  rintro e w' ⟨rfl, hmore⟩
  obtain ⟨R', P, hP, hK, hT⟩ := h.more2 hm hL' hmore
  exact ⟨rfl, _, ⟨k + 1, m1, R1, p1, m2 + 1, R', Kt.upd p2 m2 P, m3, R3, p3, hK, s1, (fun i hi => (Nat.lt_or_ge i m2).elim (fun e => by rw [Kt.upd_other _ _ _ _ (by omega)]; exact s2 i e) (fun e => by have e' : i = m2 := (by omega); rw [e', Kt.upd_same, hP]; omega)), s3⟩, hT⟩
 ·obtain ⟨pa, pc, hR, _⟩ := Kt.book_row h.b2
  have c1 := h.b2.c1
  rw [hR] at c1
  refine (Kt.write_full bk m2 pc pa (by omega) w c1 L).mono ?_
  rintro e w' ⟨rfl, hw⟩
  rw [hw]
  exact ⟨rfl, U, ⟨k, m1, R1, p1, m2, R2, p2, m3, R3, p3, h, s1, s2, s3⟩, Took.refl _ _ _ _⟩
theorem KB.keepF {w : World} {bk : Nat} {U : Nat -> Prop} (h : KB w bk U) {L : Value} {n : Nat} {f : Nat -> Kf.FE} (own : w.ownsRow 0 82 3 L n (Kf.fcells f n)) (le : n <= 64) (hL : ∀ q, L.ownBlock = some q -> q ≠ bk /\ q ≠ 0 /\ ¬ U q) : Calls Tryz.prog 217 #[.pointer (some ⟨bk, 6, none⟩), L] w fun e w' => e = .returned (.tuple #[]) /\ ∃ U', KB w' bk U' /\ Took w w' bk U U' L := by
 obtain ⟨k, m1, R1, p1, m2, R2, p2, m3, R3, p3, h, s1, s2, s3⟩ := h
 have hL' : ∀ q, L.ownBlock = some q -> q ≠ bk /\ q ≠ 0 /\ q < w.heap.size /\ ¬ U q := fun q hq => ⟨(hL q hq).1, (hL q hq).2.1, (own.lt q hq).2, (hL q hq).2.2⟩
 by_cases hm : m3 < 96
 ·have hM : Kf.Mine w bk m3 R3 p3 L n f := ⟨own, le, fun q hq => ⟨(hL q hq).1, fun e => (hL q hq).2.2 (h.u3 q e)⟩, fun e => (hL 0 e).2.1 rfl⟩
  refine (Kf.keep_more h.b3 h.c0 hM (by have := h.lk; have := h.l1; have := h.l2; have := h.l3; omega) hm).mono ?_
  rintro e w' ⟨rfl, hmore⟩
  obtain ⟨R', P, hP, hK, hT⟩ := h.more3 hm hL' hmore
  exact ⟨rfl, _, ⟨k + 1, m1, R1, p1, m2, R2, p2, m3 + 1, R', Kf.upd p3 m3 P, hK, s1, s2, (fun i hi => (Nat.lt_or_ge i m3).elim (fun e => by rw [Kf.upd_other _ _ _ _ (by omega)]; exact s3 i e) (fun e => by have e' : i = m3 := (by omega); rw [e', Kf.upd_same, hP]; omega))⟩, hT⟩
 ·obtain ⟨pa, pc, hR, _⟩ := Kf.book_row h.b3
  have c1 := h.b3.c1
  rw [hR] at c1
  refine (Kf.keep_full bk m3 pc pa (by omega) w c1 L).mono ?_
  rintro e w' ⟨rfl, hw⟩
  rw [hw]
  exact ⟨rfl, U, ⟨k, m1, R1, p1, m2, R2, p2, m3, R3, p3, h, s1, s2, s3⟩, Took.refl _ _ _ _⟩
theorem KB.writeF {w : World} {bk : Nat} {U : Nat -> Prop} (h : KB w bk U) {L : Value} {n : Nat} {f : Nat -> Kf.FE} (own : w.ownsRow 0 82 3 L n (Kf.fcells f n)) (le : n <= 64) (hL : ∀ q, L.ownBlock = some q -> q ≠ bk /\ q ≠ 0 /\ ¬ U q) : Calls Tryz.prog 216 #[.pointer (some ⟨bk, 6, none⟩), L] w fun e w' => e = .returned (.tuple #[]) /\ ∃ U', KB w' bk U' /\ Took w w' bk U U' L := by
 obtain ⟨k, m1, R1, p1, m2, R2, p2, m3, R3, p3, h, s1, s2, s3⟩ := h
 have hL' : ∀ q, L.ownBlock = some q -> q ≠ bk /\ q ≠ 0 /\ q < w.heap.size /\ ¬ U q := fun q hq => ⟨(hL q hq).1, (hL q hq).2.1, (own.lt q hq).2, (hL q hq).2.2⟩
 by_cases hm : m3 < 96
 ·have hM : Kf.Mine w bk m3 R3 p3 L n f := ⟨own, le, fun q hq => ⟨(hL q hq).1, fun e => (hL q hq).2.2 (h.u3 q e)⟩, fun e => (hL 0 e).2.1 rfl⟩
  refine (Kf.write_more h.b3 h.c0 hM (by have := h.lk; have := h.l1; have := h.l2; have := h.l3; omega) hm).mono ?_
  rintro e w' ⟨rfl, hmore⟩
  obtain ⟨R', P, hP, hK, hT⟩ := h.more3 hm hL' hmore
  exact ⟨rfl, _, ⟨k + 1, m1, R1, p1, m2, R2, p2, m3 + 1, R', Kf.upd p3 m3 P, hK, s1, s2, (fun i hi => (Nat.lt_or_ge i m3).elim (fun e => by rw [Kf.upd_other _ _ _ _ (by omega)]; exact s3 i e) (fun e => by have e' : i = m3 := (by omega); rw [e', Kf.upd_same, hP]; omega))⟩, hT⟩
 ·obtain ⟨pa, pc, hR, _⟩ := Kf.book_row h.b3
  have c1 := h.b3.c1
  rw [hR] at c1
  refine (Kf.write_full bk m3 pc pa (by omega) w c1 L).mono ?_
  rintro e w' ⟨rfl, hw⟩
  rw [hw]
  exact ⟨rfl, U, ⟨k, m1, R1, p1, m2, R2, p2, m3, R3, p3, h, s1, s2, s3⟩, Took.refl _ _ _ _⟩
end Go.Proofs.YtpeohbkigkfcgaaGreatDoor
