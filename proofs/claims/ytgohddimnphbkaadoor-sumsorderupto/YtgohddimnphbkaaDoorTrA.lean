/- sums: Trial (14). -/
import Derived.Test.YtgohddimnphbkaaDoorSbA
namespace Go.Proofs.YtgohddimnphbkaaDoor
open Go Go.RowKit Go.Shelf Go.ChangeShapes Go.WideShapes Go.ChangeAt Go.Maps Go.Sort
set_option linter.unusedVariables false
def colC (f : List UInt8 → Int) (l : List (List UInt8)) : List Value := balC (fun k => pos (f k)) (fun k => neg (f k)) l
theorem info50 : (Tryd.prog.info? 50).map (fun i => (i.zero, i.size, i.bytes)) = some (some (.agg #[.string ⟨#[]⟩, .int .i64 0, .int .i64 0]), 3, 32) := by kernel_rfl
/-- what Trial hands out -/
def TrOut (w : World) (n : Nat) (f : List UInt8 → Int) (e : Ending) (w' : World) : Prop :=
  ∃ v ss, e = .returned v ∧ ss.Nodup ∧ (∀ k, k ∈ ss ↔ f k ≠ 0) ∧ ss.length ≤ n ∧ w'.ownsRow w.heap.size 50 3 v ss.length (colC f (srt ss)) ∧ Below w.heap.size w w'
set_option maxRecDepth 100000 in
set_option maxHeartbeats 4000000 in
theorem trial_any (d : Nat) (mo mr : Option Nat) (n : Nat) (hn : n ≤ 68719476736) (f g : List UInt8 → Int) (a c : Int) (w : World) (hS : SumsAt w d mo mr n f g a c) (hf : ∀ k, isA (f k)) (hnm : ∀ k, f k ≠ 0 → nameL k = true ∧ k.length < 4611686018427387904) :
    Calls Tryd.prog 14 #[.pointer (some ⟨d, 0, none⟩)] w fun e w' => TrOut w n f e w' := by
  have HS := hide hS; have HF := hide hf; have HNM := hide hnm
  have dR := hide (rising_any d 0 n (by omega) mo f w hS.c0 hS.own)
  clear hS hf hnm
  go_enter Tryd.func14, Tryd.ntmps14
  go_wp2_with fail
  refine (unhide dR).mono ?_
  rintro e w1 ⟨v, ss, rfl, hnd, hmem, hml, hlen, hrow, hb1⟩
  obtain ⟨ks, hks⟩ : ∃ ks, ks = srt ss := ⟨_, rfl⟩
  have hkl : ks.length = ss.length := by rw [hks, srt_len]
  have hkm : ∀ k, k ∈ ks → f k ≠ 0 := fun k hk => by rw [hks, srt_mem] at hk; exact (hmem k).1 hk
  rw [← hks, ← hkl] at hrow
  obtain ⟨m, hm⟩ : ∃ m, m = ks.length := ⟨_, rfl⟩
  obtain ⟨pv, cv, hv⟩ : ∃ pv cv, v = .slice pv m cv := by
    rw [hm]
    rcases hrow.2 with ⟨e, h2⟩ | ⟨g, cap, cur, e, _⟩
    · exact ⟨none, 0, by rw [e, h2]⟩
    · exact ⟨_, _, e⟩
  have hm36 : m ≤ 68719476736 := by omega
  have HM := hide hm; have HKM := hide hkm; have HROW := hide hrow; have HB1 := hide hb1; have HND := hide hnd; have HMEM := hide hmem; have HLEN := hide hlen; have HKS := hide hks; have HKL := hide hkl
  clear dR hnd hmem hml hlen hrow hb1 hks hkl hkm hm
  subst hv
  go_wp2_with fail
  go_loopw [3, 11] (fun v3 v11 wr => ∃ (k : Nat), v11 = .int .i64 k ∧ k ≤ m ∧ Hid (wr.ownsRow w1.heap.size 50 3 v3 k (colC f (ks.take k)) ∧ Below w1.heap.size w1 wr)) (fun _ v11 _ => m - (intOf v11).toNat)
  case atStart => exact ⟨0, rfl, by omega, World.ownsRow_nil _ _ _ _, Below.refl _ _⟩
  case round =>
    obtain ⟨k, rfl, hk, hrel⟩ := hrel
    by_cases hlt : k < m
    · have hkk : k < ks.length := by rw [← unhide HM]; exact hlt
      obtain ⟨hrx, hbx⟩ := unhide hrel
      have hrow2 := row_keep (unhide HROW) (fun g hg => hbx.block g (row_block (unhide HROW) hg).2.1)
      obtain ⟨q, cq, hq, hcell⟩ := row_get hrow2 hkk
      have hpv : pv = some ⟨q, 0, none⟩ := by injection hq
      subst hpv
      clear hq
      obtain ⟨s, hsv⟩ : ∃ s : ByteArray, s = ⟨(ks[k]).toArray⟩ := ⟨_, rfl⟩
      have hse : encStr ks[k] = .string s := by rw [hsv]
      have hsl : s.data.toList = ks[k] := by rw [hsv]
      rw [hse] at hcell
      have hss : s.size ≤ maxLen := by
        have e : s.size = (ks[k]).length := by rw [hsv]; simp [ByteArray.size]
        have := (unhide HNM _ (unhide HKM _ (List.getElem_mem hkk))).2
        rw [e]
        unfold maxLen
        omega
      have hSx := ((unhide HS).below (unhide HB1)).below (hbx.mono (Nat.le_refl _))
      have dO := hide (own_any s hss d mo mr n f g a c wr hSx)
      obtain ⟨F, hF⟩ : ∃ F, F = f s.data.toList := ⟨_, rfl⟩
      have hFA : isA F := by rw [hF]; exact unhide HF _
      rw [← hF] at dO
      have dC := hide (column_any s F hFA.1 hFA.2 wr)
      have HREL := hide (And.intro hrx hbx)
      have HF2 : Hid (colC f (ks.take (k + 1)) = colC f (ks.take k) ++ [.string s, .int .i64 (pos F), .int .i64 (neg F)]) := by
        show _ = _
        rw [take_snoc ks k hkk]
        unfold colC
        rw [balC_snoc, hse, ← hsl, ← hF]
      clear hse hsv hsl hss hSx hF hrow2 hrx hbx hrel hFA
      go_wp2_with fail
      refine (unhide dO).mono ?_
      rintro e w5 ⟨rfl, hw⟩
      rw [hw]
      clear hw w5 dO
      go_wp2_with fail
      refine (unhide dC).mono ?_
      rintro e w5 ⟨rfl, hb5⟩
      obtain ⟨P, hP⟩ : ∃ P, P = pos F := ⟨_, rfl⟩
      obtain ⟨N, hN⟩ : ∃ P, P = neg F := ⟨_, rfl⟩
      rw [← hP, ← hN] at HF2 ⊢
      obtain ⟨hrx, hbx⟩ := unhide HREL
      obtain ⟨i0, hi0, hz0, hz1, hz2⟩ := info_parts info50
      have hr5 := row_keep hrx (W' := w5) (fun g hg => hb5.block g (row_block hrx hg).2.1)
      have hb15 : Below w1.heap.size w1 w5 := hbx.trans (hb5.mono hbx.size)
      have HI := hide hi0; have HZ0 := hide hz0; have HZ1 := hide hz1; have HZ2 := hide hz2
      have HRA := hide (hr5.alloc (.cells #[.string s, .int .i64 P, .int .i64 N] 50))
      have hzA : Hid (w1.heap.size ≤ (w5.alloc (.cells #[.string s, .int .i64 P, .int .i64 N] 50)).heap.size) := by show _ ≤ _; rw [World.size_alloc]; have := hb15.size; omega
      have hnw : Hid (∀ j u, ([.string s, .int .i64 P, .int .i64 N] : List Value)[j]? = some u → (w5.alloc (.cells #[.string s, .int .i64 P, .int .i64 N] 50)).cell? ((⟨w5.heap.size, 0, none⟩ : Addr).add j) = some u) := fun j u hu => by
        rw [Addr.add_mid, Nat.zero_add, World.cell?_alloc_mark]
        simpa using hu
      have hone : Hid (∀ u ∈ ([.string s, .int .i64 P, .int .i64 N] : List Value), u.oneCell' = true) := fun u hu => by
        simp at hu
        rcases hu with rfl | rfl | rfl <;> rfl
      have hl1 : Hid (k + 1 ≤ maxLen) := by show _ ≤ _; unfold maxLen; omega
      have hl2 : Hid ((k + 1) * 32 ≤ 140737488355328) := by show _ ≤ _; omega
      have hupd : Hid (∀ v' W', W'.ownsRow w1.heap.size 50 3 v' (k + 1) (colC f (ks.take k) ++ [.string s, .int .i64 P, .int .i64 N]) → (w5.alloc (.cells #[.string s, .int .i64 P, .int .i64 N] 50)).grownBy W' u3.ownBlock → W'.ownsRow w1.heap.size 50 3 v' (k + 1) (colC f (ks.take (k + 1))) ∧ Below w1.heap.size w1 W') := fun v' W' ho hg => by
        refine ⟨?_, hb15.trans ⟨hg.os, hg.tape, hg.output, Nat.le_trans (by rw [World.size_alloc]; omega) hg.size, fun q hq => ?_⟩⟩
        · rw [unhide HF2]
          exact ho
        · have hks : q < w5.heap.size := Nat.lt_of_lt_of_le hq hb15.size
          refine (hg.block q (by rw [World.size_alloc]; omega) (fun e => ?_)).trans (Below.heap_alloc _ _ q hks)
          have := (row_block hrx e.symm).1
          omega
      clear hi0 hz0 hz1 hz2 hr5 hb15 hb5 hrx hbx HREL HF2 hP hN dC
      go_wp2_with (at_builtin; refine wpList_append_own_at _ rfl _ _ 42 rfl w1.heap.size 50 i0 (.agg #[.string ⟨#[]⟩, .int .i64 0, .int .i64 0]) 3 32 Tryd.underlying42 (unhide HI) (unhide HZ0) (unhide HZ1) (unhide HZ2) rfl (by decide) u3 k _ rfl (unhide HRA) ⟨w5.heap.size, 0, none⟩ 1 1 [.string s, .int .i64 P, .int .i64 N] rfl rfl (unhide hnw) (unhide hone) (unhide hl1) (unhide hl2) (unhide hzA) ?_; intro v' W' hown' hgrow hnil hloc; have HU := hide (unhide hupd v' W' hown' hgrow); clear hown' hgrow hnil hloc)
      refine ⟨⟨k + 1, by simp, by omega, unhide HU⟩, by simp [intOf]; omega⟩
    · have hkn : k = m := by omega
      subst hkn
      obtain ⟨hrx, hbx⟩ := unhide hrel
      rw [List.take_of_length_le (by rw [← unhide HM]; omega)] at hrx
      have hlast : Hid (TrOut w n f (.returned u3) wr) := by
        refine ⟨u3, ss, rfl, unhide HND, unhide HMEM, unhide HLEN, ?_, (unhide HB1).trans (hbx.mono (unhide HB1).size)⟩
        have h1 := row_up hrx (unhide HB1).size
        rw [← unhide HKL, ← unhide HM, ← unhide HKS]
        exact h1
      clear hrx hbx
      go_wp2_with fail
      go_ret
      exact unhide hlast
end Go.Proofs.YtgohddimnphbkaaDoor
