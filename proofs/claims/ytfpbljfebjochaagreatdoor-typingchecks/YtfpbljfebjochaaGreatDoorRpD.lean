/- typing, the document's: Types 80, shown 81. -/
import Derived.Test.YtfpbljfebjochaaGreatDoorRpC
import Derived.Test.YtfpbljfebjochaaGreatDoorMoA
namespace Go.Proofs.YtfpbljfebjochaaGreatDoor
open Go Go.Shelf Go.ChangeShapes Go.WideShapes Go.ChangeAt Go.RowKit Go.Maps
set_option linter.unusedVariables false
set_option linter.unusedSimpArgs false
set_option maxRecDepth 100000
set_option maxHeartbeats 8000000
attribute [local go_sem ↓] ld37_is

theorem rtypes_any {W : World} {q : Qy} {a : Qa} (hq : QIn W q a) : Calls Tryz.prog 58 #[qV q a] W fun e w' => ∃ p c, e = .returned (.slice p q.nodes.length c) ∧ Rw kI W w' (.slice p q.nodes.length c) q.nodes.length (tyL q.nodes) := by
  obtain ⟨n, hn⟩ : ∃ n, n = q.nodes.length := ⟨_, rfl⟩
  obtain ⟨W1, hW1⟩ : ∃ X, X = W.alloc (.cells (qC q a).toArray 27) := ⟨_, rfl⟩
  have hB1 : Below W.heap.size W W1 := by rw [hW1]; exact Below.a1 W _
  have hlt1 : W.heap.size < W1.heap.size := by rw [hW1]; simp
  have hb1 : W1.heap[W.heap.size]? = some (.cells (qC q a).toArray 27 (0, 0)) := by rw [hW1]; exact heap_new _ _
  have HC0 : Hid (∀ X, Below W1.heap.size W1 X → X.cell? ⟨W.heap.size, 0, none⟩ = some (.slice a.pN n a.cN)) := fun X h => by rw [cell_at ((h.block _ hlt1).trans hb1), hn]; rfl
  have hW1' : W1 = W.alloc (.cells #[.slice a.pN n a.cN, .int .i64 q.wh, .slice a.pB q.by'.length a.cB, .slice a.pS q.sh.length a.cS, .slice a.pO q.ords.length a.cO, .int .i64 q.lim] 27) := by rw [hW1, hn]; rfl
  have hgo : qV q a = .agg #[.slice a.pN n a.cN, .int .i64 q.wh, .slice a.pB q.by'.length a.cB, .slice a.pS q.sh.length a.cS, .slice a.pO q.ords.length a.cO, .int .i64 q.lim] := by rw [hn]; rfl
  have hnb : n ≤ 2600000000000 := by rw [hn]; exact hq.nn
  have HQ := hide (hq.below hB1); have HB1 := hide hB1; have HN := hide hn
  rw [hgo, ← hn]
  clear hq hB1 hlt1 hb1 hW1 hgo hn
  go_enter Tryz.func58, Tryz.ntmps58
  go_upto_region 1 with fail
  rw [← hW1']
  clear hW1'
  go_wp2_with fail
  go_loopw [3, 4] (fun v3 v4 wr => ∃ (k : Nat) (p : Option Addr) (c : Nat), v4 = .int .i64 k ∧ k ≤ n ∧ v3 = .slice p k c ∧ Hid (Rw kI W1 wr (.slice p k c) k (tyL (q.nodes.take k)))) (fun _ v4 _ => n - (intOf v4).toNat)
  case atStart => exact ⟨0, none, 0, rfl, by omega, rfl, Rw.nil W1⟩
  case round =>
    obtain ⟨k, p, c, rfl, hk, rfl, hrel⟩ := hrel
    have hB := (unhide hrel).bel
    have c0 := unhide HC0 _ hB
    by_cases hlt : k < n
    · have hkl : k < q.nodes.length := by rw [← unhide HN]; exact hlt
      obtain ⟨b, off, e1, hbl, hr⟩ := (unhide HQ).n.2 k hkl
      have htk := hide (tyL_take q.nodes k hkl)
      obtain ⟨x, hx⟩ : ∃ x, x = q.nodes[k] := ⟨_, rfl⟩
      rw [← hx] at hr htk
      have l1 := run_ld37 (w := wr) (b := b) (o := off + k * 6) (x := x) (fun j u hu => (hB.cell (p := ⟨b, off + k * 6 + j, none⟩) hbl).trans (hr j u hu))
      have d1 := hide (rof_any (c := c) (unhide hrel).len ((unhide hrel).lies kI_ok) x)
      obtain ⟨xv, hxv⟩ : ∃ v, v = x.val := ⟨_, rfl⟩
      obtain ⟨tx, htx⟩ : ∃ v, v = ntS x (tyL (q.nodes.take k)) := ⟨_, rfl⟩
      rw [← hxv] at l1 d1
      rw [← htx] at d1 htk
      have hkn : (k : Int) < (n : Int) := by omega
      have hk0 : ¬ (k : Int) < 0 := by omega
      rw [e1] at c0
      clear hr hx hB hxv htx hbl e1
      go_wp2_with fail
      refine (unhide d1).mono ?_
      rintro e w2 ⟨rfl, hw⟩
      obtain ⟨p8, c8, w8, r8, o8⟩ := ((unhide hrel).below hw).put kI_ok tx #[.int .i64 tx] rfl 23 (by omega) (nat_bound (c := 2600000000000) (by omega) (by decide))
      have r8 : (Builtin.append_ #[23, 23] 23 #[.slice p k c, .slice (some ⟨w2.heap.size, 0, none⟩) 1 1]).run Tryz.prog (w2.alloc (.cells #[.int .i64 tx] 3)) = .ok (.slice p8 (k + 1) c8) w8 := r8
      have HR8 := hide r8; have HO8 := hide o8
      clear hw r8 o8
      go_wp2_with (at_builtin; refine wpList_append_run rfl _ _ 23 rfl _ _ _ _ rfl rfl (unhide HR8) ?_)
      refine ⟨⟨k + 1, p8, c8, by go_num, by omega, rfl, ?_⟩, by simp [intOf]; omega⟩
      show Rw _ _ _ _ _ _
      rw [unhide htk]
      exact unhide HO8
    · have hkn : k = n := by omega
      subst hkn
      clear hB
      go_wp2_with fail
      go_ret
      refine ⟨_, _, rfl, ?_⟩
      have h1 := unhide hrel
      rw [List.take_of_length_le (by rw [unhide HN]; exact Nat.le_refl _)] at h1
      exact h1.up (unhide HB1)

/-- the type of an aggregate (the document's): 0 where it means nothing -/
def shnS (T : List Int) (x : Int × Int) : Int := if shwS x T then colT T x else 0
theorem shn_nz (T : List Int) (x : Int × Int) : (shnS T x == 0) = !shwS x T := by
  unfold shnS
  cases h : shwS x T with
  | false => rfl
  | true =>
    rw [if_pos rfl]
    unfold shwS at h
    unfold colT
    by_cases h1 : x.1 = 1
    · rw [if_pos h1]; rfl
    · rw [if_neg h1] at h ⊢
      by_cases h0 : tat T x.2 = 0
      · rw [h0] at h; split at h <;> simp at h
      · rw [beqF h0]; rfl
theorem rshown_any {W : World} {p : Option Addr} {n c : Nat} {T : List Int} (hn : T.length = n) (hT : Lies kI W p T) (x : Int × Int) : Calls Tryz.prog 60 #[.agg #[.int .i64 x.1, .int .i64 x.2], .slice p n c] W fun e w' => e = .returned (.int .i64 (shnS T x)) ∧ Below W.heap.size W w' := by
  obtain ⟨k, i⟩ := x
  have HB : Hid (∀ o, Below W.heap.size W (W.alloc o)) := fun o => Below.a1 W o
  unfold shnS shwS colT
  simp only
  by_cases h1 : k = 1
  · subst h1
    rw [if_pos rfl, if_pos rfl, if_pos rfl]
    clear hT hn
    go_enter Tryz.func60, Tryz.ntmps60
    go_wp2_with fail
    go_ret
    exact ⟨rfl, unhide HB _⟩
  have h1' := beqF h1
  rw [if_neg h1, if_neg h1]
  by_cases hi0 : i < 0
  · rw [tat_out (.inl hi0)]
    have e : (if (if k = 2 then (0 : Int) == 1 || (0 : Int) == 5 else if k = 3 ∨ k = 4 then !(0 : Int) == 0 && !(0 : Int) == 4 else false) = true then (0 : Int) else 0) = 0 := ite_self _
    rw [e]
    clear hT hn e
    go_enter Tryz.func60, Tryz.ntmps60
    go_wp2_with fail
    go_ret
    exact ⟨rfl, unhide HB _⟩
  by_cases hin : i ≥ (n : Int)
  · rw [tat_out (.inr (by rw [hn]; exact hin))]
    have e : (if (if k = 2 then (0 : Int) == 1 || (0 : Int) == 5 else if k = 3 ∨ k = 4 then !(0 : Int) == 0 && !(0 : Int) == 4 else false) = true then (0 : Int) else 0) = 0 := ite_self _
    rw [e]
    clear hT hn e
    go_enter Tryz.func60, Tryz.ntmps60
    go_wp2_with fail
    go_ret
    exact ⟨rfl, unhide HB _⟩
  obtain ⟨j, rfl⟩ : ∃ j : Nat, i = j := ⟨i.toNat, by omega⟩
  have hj : j < T.length := by omega
  have e : tat T j = T[j] := by unfold tat; rw [if_neg (by omega)]; simp [List.getD, hj]
  obtain ⟨b, off, hp, hlt, hr⟩ := hT.2 j hj
  have hc0 := hr 0 (.int .i64 (T[j])) rfl
  rw [← e] at hc0
  simp only [kI, Nat.mul_one, Nat.add_zero] at hc0
  obtain ⟨t, ht⟩ : ∃ t, t = tat T j := ⟨_, rfl⟩
  rw [← ht] at hc0 ⊢
  have hc : ∀ o, (W.alloc o).cell? ⟨b, off + j, none⟩ = some (.int .i64 t) := fun o => by rw [World.cell?_alloc_lt _ _ _ hlt]; exact hc0
  subst hp
  have hjn : (j : Int) < (n : Int) := by omega
  have hj0 : ¬ (j : Int) < 0 := by omega
  clear hr hT hn e ht hj hc0 hlt
  by_cases h2 : k = 2
  · subst h2
    rw [if_pos rfl]
    by_cases t1 : t = 1
    · subst t1
      go_enter Tryz.func60, Tryz.ntmps60
      go_wp2_with fail
      go_ret
      exact ⟨rfl, unhide HB _⟩
    have t1' := beqF t1
    by_cases t5 : t = 5
    · subst t5
      go_enter Tryz.func60, Tryz.ntmps60
      go_wp2_with fail
      go_ret
      exact ⟨rfl, unhide HB _⟩
    have t5' := beqF t5
    rw [t1', t5']
    go_enter Tryz.func60, Tryz.ntmps60
    go_wp2_with fail
    go_ret
    exact ⟨rfl, unhide HB _⟩
  have h2' := beqF h2
  rw [if_neg h2]
  by_cases h3 : k = 3
  · subst h3
    rw [if_pos (show (3 : Int) = 3 ∨ (3 : Int) = 4 from .inl rfl)]
    by_cases t4 : t = 4
    · subst t4
      go_enter Tryz.func60, Tryz.ntmps60
      go_wp2_with fail
      go_ret
      exact ⟨rfl, unhide HB _⟩
    have t4' := beqF t4
    have t4'' : (t != 4) = true := by simpa using t4
    have e : (if (!(t == 0) && !(t == 4)) = true then t else 0) = t := by
      by_cases t0 : t = 0
      · subst t0; rfl
      · rw [beqF t0, t4']; rfl
    rw [e]
    clear e
    go_enter Tryz.func60, Tryz.ntmps60
    go_wp2_with fail
    go_ret
    exact ⟨rfl, unhide HB _⟩
  have h3' := beqF h3
  by_cases h4 : k = 4
  · subst h4
    rw [if_pos (show (4 : Int) = 3 ∨ (4 : Int) = 4 from .inr rfl)]
    by_cases t4 : t = 4
    · subst t4
      go_enter Tryz.func60, Tryz.ntmps60
      go_wp2_with fail
      go_ret
      exact ⟨rfl, unhide HB _⟩
    have t4' := beqF t4
    have t4'' : (t != 4) = true := by simpa using t4
    have e : (if (!(t == 0) && !(t == 4)) = true then t else 0) = t := by
      by_cases t0 : t = 0
      · subst t0; rfl
      · rw [beqF t0, t4']; rfl
    rw [e]
    clear e
    go_enter Tryz.func60, Tryz.ntmps60
    go_wp2_with fail
    go_ret
    exact ⟨rfl, unhide HB _⟩
  have h4' := beqF h4
  rw [if_neg (show ¬ (k = 3 ∨ k = 4) by omega)]
  go_enter Tryz.func60, Tryz.ntmps60
  go_wp2_with fail
  go_ret
  exact ⟨rfl, unhide HB _⟩
end Go.Proofs.YtfpbljfebjochaaGreatDoor
