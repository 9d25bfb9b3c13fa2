/- SumsOrder (4): what its loops keep. -/
import Derived.Test.YtgohddimnphbkaaDoorOrA
import Derived.Test.YtgohddimnphbkaaDoorOpR
namespace Go.Proofs.YtgohddimnphbkaaDoor
open Go Go.RowKit Go.Shelf Go.ChangeShapes Go.WideShapes Go.ChangeAt Go.Maps Go.Sort Go.Deep
set_option linter.unusedVariables false
/-- numbers that came in -/
def IntsIn (W : World) (p : Option Addr) (n : Nat) (z : Nat → Int) : Prop :=
  ∀ k, k < n → ∃ b off, p = some ⟨b, off, none⟩ ∧ b < W.heap.size ∧ W.cell? ⟨b, off + k, none⟩ = some (.int .i64 (z k)) ∧ (-9223372036854775808 ≤ z k ∧ z k ≤ 9223372036854775807)
theorem IntsIn.below {W W' : World} {p : Option Addr} {n : Nat} {z : Nat → Int} (h : IntsIn W p n z) (hb : Below W.heap.size W W') : IntsIn W' p n z := fun k hk => by
  obtain ⟨b, off, e, hlt, hc, hz⟩ := h k hk
  exact ⟨b, off, e, Nat.lt_of_lt_of_le hlt hb.size, (hb.cell (p := ⟨b, off + k, none⟩) hlt).trans hc, hz⟩
theorem open_ints1 {H : Type} {enc : TypeId × Value → H} {W : World} {fuel : Nat} {v : Value} {x : DataW H × List MemPlace} (h : DataW.trod enc Tryd.prog W 0 (fun _ => true) true fuel 23 [v] = some x) (hk : Rows.uptoBulk x.1 ≤ 1048576) :
    ∃ p n c z, v = .slice p n c ∧ n ≤ 1048576 ∧ IntsIn W p n z := by
  rcases open_ints Tryd.underlying23 Tryd.underlying3 cells3 h with ⟨hcs, _⟩ | ⟨a, len, cap, zs, hcs, hb, hl, hm, hz, hx, hcell, hwz⟩
  · simp only [List.cons.injEq, and_true] at hcs
    exact ⟨none, 0, 0, fun _ => 0, hcs, by omega, fun k hk => by omega⟩
  · simp only [List.cons.injEq, and_true] at hcs
    have hz' : zs.length = cap := by simpa using hz
    refine ⟨some a, len, cap, fun k => zs.getD k 0, hcs, ?_, fun k hk => ?_⟩
    · refine Nat.le_trans ?_ hk
      rw [hx]
      refine Nat.le_trans ?_ (bulk_slice _ _)
      simp only [lits, List.length_map, List.length_take]
      omega
    · have hs : a.spot = none := by simpa [Addr.add] using World.cell?_spot (hcell 0 (by omega))
      obtain ⟨b, off, sp⟩ := a
      simp only at hs
      subst hs
      have hc := hcell k (by omega)
      rw [Addr.add_mid] at hc
      have h8 := hwz _ (List.getElem_mem (show k < zs.length by omega))
      have e1 : zs.getD k 0 = zs[k]'(by omega) := by simp [List.getD, show k < zs.length by omega]
      refine ⟨b, off, rfl, World.block_lt_of_cell? W _ hc, hc, ?_⟩
      show -9223372036854775808 ≤ zs.getD k 0 ∧ zs.getD k 0 ≤ 9223372036854775807
      rw [e1]
      exact bounds_i64 h8
theorem Stp.row_else {W W' : World} {d : Nat} {mo mr mo' mr' : Option Nat} {n : Nat} {f g : List UInt8 → Int} {a c : Int} (hp : Stp W W' d mo mr mo' mr') (hs : SumsAt W d mo mr n f g a c) {B e s k : Nat} {v : Value} {xs : List Value} (h : W.ownsRow B e s v k xs) (hne : v.ownBlock ≠ some d) : W'.ownsRow B e s v k xs := by
  refine row_keep h (fun q hq => ?_)
  obtain ⟨h1, h2, o, ho, hc⟩ := row_block h hq
  refine hp.fr.block q h2 (fun hb => ?_)
  rcases hs.kind hb with e | ⟨es, clock, e⟩
  · rw [e] at hq
    exact hne hq
  · rw [e] at ho
    cases ho
    cases hc
/-- the outer loop: rows that are left, rows that were told -/
structure OI (w4 : World) (d : Nat) (R0 : List Ro) (v : Value) (Lf Td : List Ro) (mo mr : Option Nat) (W : World) : Prop where
  row : W.ownsRow w4.heap.size 35 9 v Lf.length (flatR Lf)
  ne : v.ownBlock ≠ some d
  pm : (Td ++ Lf).Perm R0
  vt : View W d mo mr (7 * Td.length) (rws Td)
  nw : ∀ k, Blk d mo mr k → w4.heap.size ≤ k
  bel : Below w4.heap.size w4 W
/-- the inner loop: a piece is drawn -/
structure II (w4 wo : World) (d : Nat) (R0 Td : List Ro) (v u : Value) (Lf Pc : List Ro) (W : World) : Prop where
  row : W.ownsRow w4.heap.size 35 9 v Lf.length (flatR Lf)
  ne : v.ownBlock ≠ some d
  pc : W.ownsRow wo.heap.size 35 9 u Pc.length (flatR Pc)
  pm : (Td ++ (Pc ++ Lf)).Perm R0
  bel : Below wo.heap.size wo W
  ap : ∀ g, v.ownBlock = some g → u.ownBlock ≠ some g
theorem draw_pm {Td Pc Lf R0 : List Ro} (h : (Td ++ (Pc ++ Lf)).Perm R0) {a : Nat} (ha : a < Lf.length) : (Td ++ ((Pc ++ [Lf[a]]) ++ (Lf.take a ++ Lf.drop (a + 1)))).Perm R0 := by
  refine List.Perm.trans (List.Perm.append_left Td ?_) h
  rw [List.append_assoc]
  refine List.Perm.append_left Pc ?_
  exact draw_perm Lf a ha
theorem row_le {W : World} {B B' e s n : Nat} {v : Value} {xs : List Value} (h : W.ownsRow B e s v n xs) (hb : B' ≤ B) : W.ownsRow B' e s v n xs := by
  refine ⟨h.1, ?_⟩
  rcases h.2 with h2 | ⟨g, cap, cur, e, hB, h3⟩
  · exact .inl h2
  · exact .inr ⟨g, cap, cur, e, Nat.le_trans hb hB, h3⟩
theorem row_slice {W : World} {B e s n : Nat} {v : Value} {xs : List Value} (h : W.ownsRow B e s v n xs) : ∃ p c, v = .slice p n c := by
  rcases h.2 with ⟨e, h2⟩ | ⟨g, cap, cur, e, _⟩
  · exact ⟨none, 0, by rw [e, h2]⟩
  · exact ⟨_, _, e⟩
/-- the block of one row -/
def oneR (r : Ro) : Obj := .cells #[.int .i64 r.i0, .int .i64 r.i1, .int .i64 r.i2, .int .i64 r.i3, .string r.s4, .string r.acc, .int .i64 r.amt, .string r.s7, .string r.s8] 35
theorem oneR_in (W : World) (r : Ro) : RowsIn (W.alloc (oneR r)) (some ⟨W.heap.size, 0, none⟩) [r] := by
  refine ⟨(fun h => by cases h), fun k hk => ?_⟩
  have e : k = 0 := by simp at hk; exact hk
  subst e
  refine ⟨W.heap.size, 0, rfl, by simp, fun j u hu => ?_⟩
  unfold oneR
  rw [World.cell?_alloc_mark, Nat.zero_mul, Nat.zero_add]
  simpa [Ro.vals] using hu
set_option maxRecDepth 100000 in
/-- what is left behind a draw -/
theorem rest_run {W : World} {B g c n : Nat} {Lf : List Ro} (hn : Lf.length = n) (h : W.ownsRow B 35 9 (.slice (some ⟨g, 0, none⟩) n c) n (flatR Lf)) (a : Nat) (ha : a < n) (hnc : n ≤ c) (hnb : n ≤ 1048576) :
    ∃ v1 w1 v2 w2, (Builtin.append_ #[22, 22] 22 #[.slice none 0 0, .slice (some ⟨g, 0, none⟩) a c]).run Tryd.prog W = .ok v1 w1 ∧ (Builtin.append_ #[22, 22] 22 #[v1, .slice (if c = a + 1 then some ⟨g, 0, none⟩ else some ⟨g, (a + 1) * 9, none⟩) (n - (a + 1)) (c - (a + 1))]).run Tryd.prog w1 = .ok v2 w2 ∧ w2.ownsRow W.heap.size 35 9 v2 (n - 1) (flatR (Lf.take a ++ Lf.drop (a + 1))) ∧ Below W.heap.size W w2 := by
  have hp1 := part_in hn h 0 a (by omega)
  have l1 : ((Lf.drop 0).take a).length = a := by rw [List.length_take, List.length_drop]; omega
  obtain ⟨v1, w1, hr1, ho1, hb1, _⟩ := run_append_more (W := W) (B := W.heap.size) (v := .slice none 0 0) (R := []) (S := (Lf.drop 0).take a) (n := 0) 22 (World.ownsRow_nil _ _ _ _) (Nat.le_refl _) (some ⟨g, 0 * 9, none⟩) c (fun h => by cases h) hp1 (by omega)
  rw [l1, Nat.zero_mul] at hr1
  rw [l1, Nat.zero_add, List.nil_append, List.drop_zero] at ho1
  have h1 : w1.ownsRow B 35 9 (.slice (some ⟨g, 0, none⟩) n c) n (flatR Lf) := row_keep h (fun q hq => hb1.block q (row_block h hq).2.1)
  have hp2 := part_in hn h1 (a + 1) (n - (a + 1)) (by omega)
  have l2 : ((Lf.drop (a + 1)).take (n - (a + 1))) = Lf.drop (a + 1) := List.take_of_length_le (by rw [List.length_drop]; omega)
  rw [l2] at hp2
  have l3 : (Lf.drop (a + 1)).length = n - (a + 1) := by rw [List.length_drop]; omega
  have hp3 : RowsIn w1 (if c = a + 1 then some ⟨g, 0, none⟩ else some ⟨g, (a + 1) * 9, none⟩) (Lf.drop (a + 1)) := by
    by_cases hc : c = a + 1
    · rw [if_pos hc]
      exact ⟨(fun h => by cases h), fun k hk => by omega⟩
    · rw [if_neg hc]
      exact hp2
  have hq : (if c = a + 1 then some (⟨g, 0, none⟩ : Addr) else some ⟨g, (a + 1) * 9, none⟩) = none → c - (a + 1) = 0 := fun h => by
    by_cases hc : c = a + 1
    · omega
    · rw [if_neg hc] at h
      cases h
  obtain ⟨v2, w2, hr2, ho2, hb2, _⟩ := run_append_more (W := w1) (B := W.heap.size) (v := v1) (R := Lf.take a) (S := Lf.drop (a + 1)) (n := a) 22 ho1 hb1.size (if c = a + 1 then some ⟨g, 0, none⟩ else some ⟨g, (a + 1) * 9, none⟩) (c - (a + 1)) hq hp3 (by omega)
  rw [l3] at hr2 ho2
  rw [show a + (n - (a + 1)) = n - 1 from by omega] at ho2
  exact ⟨v1, w1, v2, w2, hr1, hr2, ho2, hb1.trans hb2⟩
/-- a round of the inner loop -/
theorem draw_round {w4 wo W : World} {d g c n k a : Nat} {R0 Td Lf Pc : List Ro} {u : Value} (hI : II w4 wo d R0 Td (.slice (some ⟨g, 0, none⟩) n c) u Lf Pc W) (hn : Lf.length = n) (hk : Pc.length = k) (ha : a < n) (hnc : n ≤ c) (hd : d < wo.heap.size) (h4 : w4.heap.size ≤ wo.heap.size) (hkn : k + n ≤ 1048576) :
    ∃ r p1 c1 w1 v2 w2 p3 c3 w3, W.rangeAt g (a * 9) r.vals ∧ (Builtin.append_ #[22, 22] 22 #[u, .slice (some ⟨W.heap.size, 0, none⟩) 1 1]).run Tryd.prog (W.alloc (oneR r)) = .ok (.slice p1 (k + 1) c1) w1 ∧ (Builtin.append_ #[22, 22] 22 #[.slice none 0 0, .slice (some ⟨g, 0, none⟩) a c]).run Tryd.prog w1 = .ok v2 w2 ∧ (Builtin.append_ #[22, 22] 22 #[v2, .slice (if c = a + 1 then some ⟨g, 0, none⟩ else some ⟨g, (a + 1) * 9, none⟩) (n - (a + 1)) (c - (a + 1))]).run Tryd.prog w2 = .ok (.slice p3 (n - 1) c3) w3 ∧
      ∃ Lf' Pc', Lf'.length = n - 1 ∧ Pc'.length = k + 1 ∧ II w4 wo d R0 Td (.slice p3 (n - 1) c3) (.slice p1 (k + 1) c1) Lf' Pc' w3 := by
  have haL : a < Lf.length := by omega
  have hrow := hI.row
  rw [hn] at hrow
  have hpc := hI.pc
  rw [hk] at hpc
  have hg := row_block hrow (g := g) rfl
  have hwW := hI.bel.size
  obtain ⟨r, hr⟩ : ∃ r, r = Lf[a] := ⟨_, rfl⟩
  obtain ⟨v1, w1, hr1, ho1, hb1, hk1⟩ := run_append_more (W := W.alloc (oneR r)) (B := wo.heap.size) (v := u) (R := Pc) (S := [r]) (n := k) 22 (hpc.alloc _) (by simp; omega) (some ⟨W.heap.size, 0, none⟩) 1 (fun h => by cases h) (oneR_in W r) (by simp; omega)
  rw [List.length_singleton] at hr1 ho1
  obtain ⟨p1, c1, e1⟩ := row_slice ho1
  subst e1
  have hs1 : W.heap.size < w1.heap.size := by
    have h2 := hb1.size
    simp at h2
    omega
  have hl1 : w1.ownsRow w4.heap.size 35 9 (.slice (some ⟨g, 0, none⟩) n c) n (flatR Lf) := by
    refine row_keep (hrow.alloc (oneR r)) (fun q hq => hk1 q ?_ (hI.ap q hq))
    have := (row_block hrow hq).2.1
    simp
    omega
  obtain ⟨v2, w2, v3, w3, hr2, hr3, ho3, hb3⟩ := rest_run hn hl1 a ha hnc (by omega)
  obtain ⟨p3, c3, e3⟩ := row_slice ho3
  subst e3
  have hp1 : w3.ownsRow wo.heap.size 35 9 (.slice p1 (k + 1) c1) (k + 1) (flatR (Pc ++ [r])) := row_keep ho1 (fun q hq => hb3.block q (row_block ho1 hq).2.1)
  have e4 : (Lf.take a ++ Lf.drop (a + 1)).length = n - 1 := by rw [List.length_append, List.length_take, List.length_drop]; omega
  have e5 : (Pc ++ [r]).length = k + 1 := by rw [List.length_append, List.length_singleton, hk]
  have hww : W.heap.size ≤ w1.heap.size := by omega
  refine ⟨r, p1, c1, w1, v2, w2, p3, c3, w3, ?_, hr1, hr2, hr3, _, _, e4, e5, ⟨?_, ?_, ?_, ?_, ?_, ?_⟩⟩
  · have hpi := part_in hn hrow a 1 (by omega)
    have h6 : (Lf.drop a).take 1 = [r] := by
      rw [hr, List.drop_eq_getElem_cons haL]
      rfl
    rw [h6] at hpi
    obtain ⟨b, off, e, _, h7⟩ := hpi.2 0 (by simp)
    injection e with e
    injection e with e e'
    subst e
    rw [← e'] at h7
    simpa using h7
  · rw [e4]
    exact row_le ho3 (by omega)
  · intro h
    have := (row_block ho3 h).1
    omega
  · rw [e5]
    exact hp1
  · rw [hr]
    exact draw_pm hI.pm haL
  · exact hI.bel.trans ((((Below.refl _ _).alloc hwW (oneR r)).trans hb1).trans (hb3.mono (by omega)))
  · intro q h1 h2
    have h3 := (row_block ho3 h1).1
    have h4 := (row_block ho1 h2).2.1
    omega
end Go.Proofs.YtgohddimnphbkaaDoor
