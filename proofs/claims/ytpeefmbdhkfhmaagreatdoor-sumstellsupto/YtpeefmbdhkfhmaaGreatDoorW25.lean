import Derived.Test.YtpeefmbdhkfhmaaGreatDoorW24
import Derived.Test.YtpeefmbdhkfhmaaGreatDoorW17
import Derived.Test.YtpeefmbdhkfhmaaGreatDoorW22
import Derived.Test.YtpeefmbdhkfhmaaGreatDoorW02
import Derived.Test.YtpeefmbdhkfhmaaGreatDoorW23
/- sums: Trial (14). -/
namespace Go.Proofs.YtpeefmbdhkfhmaaGreatDoor
open Go Go.RowKit Go.Shelf Go.ChangeShapes Go.WideShapes Go.ChangeAt Go.Maps Go.Sort
set_option linter.unusedVariables false
def colC (f : List UInt8 → Int) (l : List (List UInt8)) : List Value := balC (fun k => pos (f k)) (fun k => neg (f k)) l
theorem info50 : (Tryz.prog.info? 123).map (fun i => (i.zero, i.size, i.bytes)) = some (some (.agg #[.string ⟨#[]⟩, .int .i64 0, .int .i64 0]), 3, 32) := by kernel_rfl
/-- what Trial hands out -/
def TrOut (w : World) (n : Nat) (f : List UInt8 → Int) (e : Ending) (w' : World) : Prop :=
  ∃ v ss, e = .returned v ∧ ss.Nodup ∧ (∀ k, k ∈ ss ↔ f k ≠ 0) ∧ ss.length ≤ n ∧ w'.ownsRow w.heap.size 123 3 v ss.length (colC f (srt ss)) ∧ Below w.heap.size w w'
set_option maxRecDepth 100000 in
set_option maxHeartbeats 4000000 in
theorem trial_any (d : Nat) (mo mr : Option Nat) (n : Nat) (hn : n ≤ 68719476736) (f g : List UInt8 → Int) (a c : Int) (w : World) (hS : SumsAt w d mo mr n f g a c) (hf : ∀ k, isA (f k)) (hnm : ∀ k, f k ≠ 0 → nameL k = true ∧ k.length < 4611686018427387904) :
    Calls Tryz.prog 30 #[.pointer (some ⟨d, 0, none⟩)] w fun e w' => TrOut w n f e w' := by
  have HS := hide hS; have HF := hide hf; have HNM := hide hnm
  have dR := hide (rising_any d 0 n (by omega) mo f w hS.c0 hS.own)
  clear hS hf hnm
  go_enter Tryz.func30, Tryz.ntmps30
  go_wp2_with fail
  refine (unhide dR).mono ?_
  rintro e w1 ⟨v, ss, rfl, hnd, hmem, hml, hlen, hrow, hb1⟩
  obtain ⟨ks, hks⟩ : ∃ ks, ks = srt ss := ⟨_, rfl⟩
  have hkl : ks.length = ss.length := by rw [hks, srt_len]
  have hkm : ∀ k, k ∈ ks → f k ≠ 0 := fun k hk => by rw [hks, srt_mem] at hk; exact (hmem k).1 hk
  rw [← hks, ← hkl] at hrow
  obtain ⟨m, hm⟩ : ∃ m, m = ks.length := ⟨_, rfl⟩
  obtain ⟨pv, cv, hv⟩ : ∃ pv cv, v = .slice pv m cv := by
    rw [hm]
    rcases hrow.2 with ⟨e, h2⟩ | ⟨g, cap, cur, e, _⟩
    · exact ⟨none, 0, by rw [e, h2]⟩
    · exact ⟨_, _, e⟩
  have hm36 : m ≤ 68719476736 := by omega
  have HM := hide hm; have HKM := hide hkm; have HROW := hide hrow; have HB1 := hide hb1; have HND := hide hnd; have HMEM := hide hmem; have HLEN := hide hlen; have HKS := hide hks; have HKL := hide hkl
  clear dR hnd hmem hml hlen hrow hb1 hks hkl hkm hm
  subst hv
  go_wp2_with fail
  go_loopw [3, 11] (fun v3 v11 wr => ∃ (k : Nat), v11 = .int .i64 k ∧ k ≤ m ∧ Hid (wr.ownsRow w1.heap.size 123 3 v3 k (colC f (ks.take k)) ∧ Below w1.heap.size w1 wr)) (fun _ v11 _ => m - (intOf v11).toNat)
  case atStart => exact ⟨0, rfl, by omega, World.ownsRow_nil _ _ _ _, Below.refl _ _⟩
  case round =>
    obtain ⟨k, rfl, hk, hrel⟩ := hrel
    by_cases hlt : k < m
    · have hkk : k < ks.length := by rw [← unhide HM]; exact hlt
      obtain ⟨hrx, hbx⟩ := unhide hrel
      have hrow2 := row_keep (unhide HROW) (fun g hg => hbx.block g (row_block (unhide HROW) hg).2.1)
      obtain ⟨q, cq, hq, hcell⟩ := row_get hrow2 hkk
      have hpv : pv = some ⟨q, 0, none⟩ := by injection hq
      subst hpv
      clear hq
      obtain ⟨s, hsv⟩ : ∃ s : ByteArray, s = ⟨(ks[k]).toArray⟩ := ⟨_, rfl⟩
      have hse : encStr ks[k] = .string s := by rw [hsv]
      have hsl : s.data.toList = ks[k] := by rw [hsv]
      rw [hse] at hcell
      have hss : s.size ≤ maxLen := by
        have e : s.size = (ks[k]).length := by rw [hsv]; simp [ByteArray.size]
        have := (unhide HNM _ (unhide HKM _ (List.getElem_mem hkk))).2
        rw [e]
        unfold maxLen
        omega
      have hSx := ((unhide HS).below (unhide HB1)).below (hbx.mono (Nat.le_refl _))
      have dO := hide (own_any s hss d mo mr n f g a c wr hSx)
      obtain ⟨F, hF⟩ : ∃ F, F = f s.data.toList := ⟨_, rfl⟩
      have hFA : isA F := by rw [hF]; exact unhide HF _
      rw [← hF] at dO
      have dC := hide (column_any s F hFA.1 hFA.2 wr)
      have HREL := hide (And.intro hrx hbx)
      have HF2 : Hid (colC f (ks.take (k + 1)) = colC f (ks.take k) ++ [.string s, .int .i64 (pos F), .int .i64 (neg F)]) := by
        show _ = _
        rw [take_snoc ks k hkk]
        unfold colC
        rw [balC_snoc, hse, ← hsl, ← hF]
      clear hse hsv hsl hss hSx hF hrow2 hrx hbx hrel hFA
      go_wp2_with fail
      refine (unhide dO).mono ?_
      rintro e w5 ⟨rfl, hw⟩
      rw [hw]
      clear hw w5 dO
      go_wp2_with fail
      refine (unhide dC).mono ?_
      rintro e w5 ⟨rfl, hb5⟩
      obtain ⟨P, hP⟩ : ∃ P, P = pos F := ⟨_, rfl⟩
      obtain ⟨N, hN⟩ : ∃ P, P = neg F := ⟨_, rfl⟩
      rw [← hP, ← hN] at HF2 ⊢
      obtain ⟨hrx, hbx⟩ := unhide HREL
      obtain ⟨i0, hi0, hz0, hz1, hz2⟩ := info_parts info50
      have hr5 := row_keep hrx (W' := w5) (fun g hg => hb5.block g (row_block hrx hg).2.1)
      have hb15 : Below w1.heap.size w1 w5 := hbx.trans (hb5.mono hbx.size)
      have HI := hide hi0; have HZ0 := hide hz0; have HZ1 := hide hz1; have HZ2 := hide hz2
      have HRA := hide (hr5.alloc (.cells #[.string s, .int .i64 P, .int .i64 N] 123))
      have hzA : Hid (w1.heap.size ≤ (w5.alloc (.cells #[.string s, .int .i64 P, .int .i64 N] 123)).heap.size) := by show _ ≤ _; rw [World.size_alloc]; have := hb15.size; omega
      have hnw : Hid (∀ j u, ([.string s, .int .i64 P, .int .i64 N] : List Value)[j]? = some u → (w5.alloc (.cells #[.string s, .int .i64 P, .int .i64 N] 123)).cell? ((⟨w5.heap.size, 0, none⟩ : Addr).add j) = some u) := fun j u hu => by
        rw [Addr.add_mid, Nat.zero_add, World.cell?_alloc_mark]
        simpa using hu
      have hone : Hid (∀ u ∈ ([.string s, .int .i64 P, .int .i64 N] : List Value), u.oneCell' = true) := fun u hu => by
        simp at hu
        rcases hu with rfl | rfl | rfl <;> rfl
      have hl1 : Hid (k + 1 ≤ maxLen) := by show _ ≤ _; unfold maxLen; omega
      have hl2 : Hid ((k + 1) * 32 ≤ 140737488355328) := by show _ ≤ _; omega
      have hupd : Hid (∀ v' W', W'.ownsRow w1.heap.size 123 3 v' (k + 1) (colC f (ks.take k) ++ [.string s, .int .i64 P, .int .i64 N]) → (w5.alloc (.cells #[.string s, .int .i64 P, .int .i64 N] 123)).grownBy W' u3.ownBlock → W'.ownsRow w1.heap.size 123 3 v' (k + 1) (colC f (ks.take (k + 1))) ∧ Below w1.heap.size w1 W') := fun v' W' ho hg => by
        refine ⟨?_, hb15.trans ⟨hg.os, hg.tape, hg.output, Nat.le_trans (by rw [World.size_alloc]; omega) hg.size, fun q hq => ?_⟩⟩
        · rw [unhide HF2]
          exact ho
        · have hks : q < w5.heap.size := Nat.lt_of_lt_of_le hq hb15.size
          refine (hg.block q (by rw [World.size_alloc]; omega) (fun e => ?_)).trans (Below.heap_alloc _ _ q hks)
          have := (row_block hrx e.symm).1
          omega
      clear hi0 hz0 hz1 hz2 hr5 hb15 hb5 hrx hbx HREL HF2 hP hN dC
      go_wp2_with (at_builtin; refine wpList_append_own_at _ rfl _ _ 92 rfl w1.heap.size 123 i0 (.agg #[.string ⟨#[]⟩, .int .i64 0, .int .i64 0]) 3 32 Tryz.underlying92 (unhide HI) (unhide HZ0) (unhide HZ1) (unhide HZ2) rfl (by decide) u3 k _ rfl (unhide HRA) ⟨w5.heap.size, 0, none⟩ 1 1 [.string s, .int .i64 P, .int .i64 N] rfl rfl (unhide hnw) (unhide hone) (unhide hl1) (unhide hl2) (unhide hzA) ?_; intro v' W' hown' hgrow hnil hloc; have HU := hide (unhide hupd v' W' hown' hgrow); clear hown' hgrow hnil hloc)
      refine ⟨⟨k + 1, by simp, by omega, unhide HU⟩, by simp [intOf]; omega⟩
    · have hkn : k = m := by omega
      subst hkn
      obtain ⟨hrx, hbx⟩ := unhide hrel
      rw [List.take_of_length_le (by rw [← unhide HM]; omega)] at hrx
      have hlast : Hid (TrOut w n f (.returned u3) wr) := by
        refine ⟨u3, ss, rfl, unhide HND, unhide HMEM, unhide HLEN, ?_, (unhide HB1).trans (hbx.mono (unhide HB1).size)⟩
        have h1 := row_up hrx (unhide HB1).size
        rw [← unhide HKL, ← unhide HM, ← unhide HKS]
        exact h1
      clear hrx hbx
      go_wp2_with fail
      go_ret
      exact unhide hlast
end Go.Proofs.YtpeefmbdhkfhmaaGreatDoor
/- sums, no program in it: the document's view and the program's tell the same. -/
namespace Go.Proofs.YtpeefmbdhkfhmaaGreatDoor.Kg
open Go Go.RowKit Go.Shelf Go.ChangeShapes Go.WideShapes Go.ChangeAt Go.Maps
set_option linter.unusedVariables false
set_option linter.unusedSimpArgs false
set_option maxRecDepth 100000
set_option maxHeartbeats 8000000
/-- the rows that were told to the document's view, as rows -/
def rw8 (Ns : List ByteArray) (As : List Int) : Rows8 := (Ns.zip As).map fun p => (p.1.data.toList, p.2)
theorem ba_ext {a b : ByteArray} : a.data.toList = b.data.toList ↔ a = b := by
  constructor
  · intro h
    cases a; cases b
    simp only [ByteArray.mk.injEq]
    exact Array.toList_inj.1 h
  · intro h; rw [h]
theorem sm_sum {β : Type} (f : β → Int) (p : β → Bool) (l : List β) : ((l.filter p).map f).sum = sm (fun x => if p x = true then f x else 0) l := by
  induction l with
  | nil => rfl
  | cons x l ih =>
    by_cases h : p x = true
    · rw [List.filter_cons_of_pos h, List.map_cons, List.sum_cons, ih]; simp [sm, h]
    · rw [List.filter_cons_of_neg h, ih]; simp [sm, h]
theorem own_amts (Ns : List ByteArray) (As : List Int) (s : ByteArray) : (amtsOf Ns As s).sum = own (rw8 Ns As) s.data.toList := by
  unfold amtsOf own rw8
  rw [sm_sum, sm_map]
  refine sm_congr fun p _ => ?_
  simp only [decide_eq_true_eq]
  by_cases h : p.1 = s
  · rw [if_pos h, if_pos (ba_ext.2 h)]
  · rw [if_neg h, if_neg (fun e => h (ba_ext.1 e))]
theorem ups_name {l k : List UInt8} (h : nameL l = true) (hk : k ∈ ups l) : nameL k = true := by
  obtain ⟨j, hj, rfl⟩ := mem_ups.1 hk
  have hlt := lt_of_colon hj
  have e : l = l.take j ++ 58 :: l.drop (j + 1) := by
    have h1 : l.drop j = 58 :: l.drop (j + 1) := by
      rw [List.drop_eq_getElem_cons hlt]
      rw [List.getElem?_eq_getElem hlt] at hj
      rw [Option.some.inj hj]
    rw [← h1, List.take_append_drop]
  rw [e] at h
  exact name_above h
theorem nil_name : nameL [] = false := by decide
theorem rol_is {x s : ByteArray} (h : nameL x.data.toList = true) : rolB s x = true ↔ s.data.toList ∈ x.data.toList :: ups x.data.toList := by
  unfold rolB undB
  rw [List.mem_cons]
  simp only [Bool.or_eq_true, Bool.and_eq_true, decide_eq_true_eq, Bool.not_eq_true', decide_eq_false_iff_not]
  constructor
  · rintro (⟨h1, _⟩ | h1)
    · exact .inr h1
    · exact .inl (by rw [h1])
  · rintro (h1 | h1)
    · exact .inr (ba_ext.1 h1).symm
    · refine .inl ⟨h1, fun e => ?_⟩
      rw [e] at h1
      have := ups_name h h1
      rw [show (⟨#[]⟩ : ByteArray).data.toList = [] from rfl, nil_name] at this
      cases this
theorem roll_sel {Ns : List ByteArray} {As : List Int} (hn : named (rw8 Ns As)) (s : ByteArray) : (selOf (rolB s) Ns As).sum = roll ups (rw8 Ns As) s.data.toList := by
  unfold selOf roll
  have hz : ∀ p ∈ Ns.zip As, nameL p.1.data.toList = true := fun p hp => (hn (p.1.data.toList, p.2) (List.mem_map.2 ⟨p, hp, rfl⟩)).1
  rw [sm_sum]
  unfold rw8
  rw [sm_map]
  refine sm_congr fun p hp => ?_
  by_cases h : rolB s p.1 = true
  · rw [if_pos h, if_pos ((rol_is (hz p hp)).1 h)]
  · rw [if_neg h, if_neg (fun e => h ((rol_is (hz p hp)).2 e))]
/-- names rise -/
def Ris (L : List ByteArray) : Prop := L.Pairwise fun a b => a.data.toList < b.data.toList
theorem by_tri (a b : List UInt8) : a < b ∨ a = b ∨ b < a := by
  by_cases h1 : a < b
  · exact .inl h1
  · by_cases h2 : b < a
    · exact .inr (.inr h2)
    · exact .inr (.inl (List.le_antisymm (fun h => h2 h) (fun h => h1 h)))
theorem by_irr (a : List UInt8) : ¬ a < a := List.lt_irrefl a
theorem by_trans {a b c : List UInt8} (h : a < b) (k : b < c) : a < c := List.lt_trans h k
structure Inn (x : ByteArray) (L M : List ByteArray) (d : Bool) : Prop where
  ris : Ris M
  no : d = false → M = L ∧ ∀ y ∈ L, y.data.toList < x.data.toList
  yes : d = true → (∀ z, z ∈ M ↔ z = x ∨ z ∈ L) ∧ ∃ z ∈ L, x = z ∨ x.data.toList < z.data.toList
theorem ins_inn (x : ByteArray) : ∀ (L M : List ByteArray), (L ++ M).Pairwise (fun a b => a.data.toList < b.data.toList) → Inn x L (insF x L).1 (insF x L).2 → Inn x (L ++ M) (insF x (L ++ M)).1 (insF x (L ++ M)).2 := by
  intro L M
  induction M generalizing L with
  | nil => intro _ h; simpa using h
  | cons y M ih =>
    intro hr h
    have hr2 : ((L ++ [y]) ++ M).Pairwise (fun a b => a.data.toList < b.data.toList) := by simpa using hr
    have hy : ∀ z ∈ L, z.data.toList < y.data.toList := fun z hz => (List.pairwise_append.1 hr).2.2 z hz y (by simp)
    have hL : L.Pairwise (fun a b => a.data.toList < b.data.toList) := (List.pairwise_append.1 hr).1
    have key : Inn x (L ++ [y]) (insF x (L ++ [y])).1 (insF x (L ++ [y])).2 := by
      have e : insF x (L ++ [y]) = insS x (insF x L) y := by unfold insF; rw [List.foldl_append]; rfl
      rw [e]
      obtain ⟨A, d, hAd⟩ : ∃ A d, insF x L = (A, d) := ⟨_, _, rfl⟩
      rw [hAd] at h ⊢
      simp only at h
      unfold insS
      simp only
      cases d with
      | true =>
        rw [if_pos (.inl rfl)]
        obtain ⟨hm, z0, hz0, hx0⟩ := h.yes rfl
        have hxy : x.data.toList < y.data.toList := by
          rcases hx0 with rfl | h0
          · exact hy _ hz0
          · exact by_trans h0 (hy _ hz0)
        refine ⟨?_, fun e => (by cases e), fun _ => ⟨fun z => ?_, z0, by simp [hz0], hx0⟩⟩
        · refine List.pairwise_append.2 ⟨h.ris, by simp, fun a ha b hb => ?_⟩
          rw [List.mem_singleton] at hb
          subst hb
          rcases (hm a).1 ha with rfl | ha
          · exact hxy
          · exact hy a ha
        · simp only [List.mem_append, List.mem_singleton, hm]; grind
      | false =>
        obtain ⟨hA, hlt⟩ := h.no rfl
        subst hA
        by_cases hyx : y = x
        · rw [if_pos (.inr hyx)]
          refine ⟨?_, fun e => (by cases e), fun _ => ⟨fun z => ?_, y, by simp, .inl hyx.symm⟩⟩
          · refine List.pairwise_append.2 ⟨hL, by simp, fun a ha b hb => ?_⟩
            rw [List.mem_singleton] at hb
            subst hb
            exact hy a ha
          · subst hyx
            simp only [List.mem_append, List.mem_singleton]; grind
        · rw [if_neg (by simp [hyx])]
          by_cases hl : x.data.toList < y.data.toList
          · rw [if_pos hl]
            refine ⟨?_, fun e => (by cases e), fun _ => ⟨fun z => ?_, y, by simp, .inr hl⟩⟩
            · rw [List.append_assoc]
              refine List.pairwise_append.2 ⟨hL, List.pairwise_append.2 ⟨by simp, by simp, fun a ha b hb => by rw [List.mem_singleton] at ha hb; rw [ha, hb]; exact hl⟩, fun a ha b hb => ?_⟩
              simp only [List.mem_append, List.mem_singleton] at hb
              rcases hb with rfl | rfl
              · exact hlt a ha
              · exact hy a ha
            · simp only [List.mem_append, List.mem_singleton]; grind
          · rw [if_neg hl]
            have hyl : y.data.toList < x.data.toList := by
              rcases by_tri x.data.toList y.data.toList with h1 | h1 | h1
              · exact absurd h1 hl
              · exact absurd (ba_ext.1 h1).symm hyx
              · exact h1
            refine ⟨?_, fun _ => ⟨rfl, fun z hz => ?_⟩, fun e => (by cases e)⟩
            · refine List.pairwise_append.2 ⟨hL, by simp, fun a ha b hb => ?_⟩
              rw [List.mem_singleton] at hb
              subst hb
              exact hy a ha
            · simp only [List.mem_append, List.mem_singleton] at hz
              rcases hz with hz | rfl
              · exact hlt z hz
              · exact hyl
    have := ih (L ++ [y]) hr2 key
    simpa using this
theorem ins_ris {L : List ByteArray} (h : Ris L) (x : ByteArray) : Ris (insL L x) ∧ ∀ z, z ∈ insL L x ↔ z = x ∨ z ∈ L := by
  have h0 : Inn x [] (insF x []).1 (insF x []).2 := ⟨List.Pairwise.nil, fun _ => ⟨rfl, fun y hy => by cases hy⟩, fun e => by cases e⟩
  have hi := ins_inn x [] L h h0
  simp only [List.nil_append] at hi
  unfold insL
  by_cases hd : (insF x L).2 = true
  · rw [if_pos hd]
    exact ⟨hi.ris, (hi.yes hd).1⟩
  · rw [if_neg hd]
    obtain ⟨e, hlt⟩ := hi.no (by simpa using hd)
    rw [e]
    refine ⟨List.pairwise_append.2 ⟨h, by simp, fun a ha b hb => ?_⟩, fun z => ?_⟩
    · rw [List.mem_singleton] at hb
      subst hb
      exact hlt a ha
    · simp only [List.mem_append, List.mem_singleton]; grind
theorem accs_ris (Ns : List ByteArray) : Ris (accs Ns) ∧ ∀ z, z ∈ accs Ns ↔ z ∈ Ns := by
  have key : ∀ (M L : List ByteArray), Ris L → Ris (M.foldl insL L) ∧ ∀ z, z ∈ M.foldl insL L ↔ z ∈ M ∨ z ∈ L := by
    intro M
    induction M with
    | nil => intro L h; exact ⟨h, fun z => by simp⟩
    | cons y M ih =>
      intro L h
      obtain ⟨h1, h2⟩ := ins_ris h y
      obtain ⟨h3, h4⟩ := ih (insL L y) h1
      refine ⟨h3, fun z => ?_⟩
      rw [List.foldl_cons, h4, h2, List.mem_cons]
      grind
  obtain ⟨h1, h2⟩ := key Ns [] List.Pairwise.nil
  exact ⟨h1, fun z => by rw [accs, h2]; simp⟩
theorem ris_nodup {L : List ByteArray} (h : Ris L) : (L.map (·.data.toList)).Nodup := by
  have h2 : (L.map (·.data.toList)).Pairwise (fun a b => a < b) := List.pairwise_map.2 h
  exact h2.imp (fun {a b} (hab : a < b) (e : a = b) => by_irr b (e ▸ hab))
/-- a rising list is what srt makes of its members -/
theorem ris_srt {L : List ByteArray} (h : Ris L) {hs : List (List UInt8)} (hn : hs.Nodup) (hm : ∀ k, k ∈ hs ↔ k ∈ L.map (·.data.toList)) : srt hs = L.map (·.data.toList) := by
  have e : srt hs = srt (L.map (·.data.toList)) := srt_eq hn (ris_nodup h) hm
  rw [e]
  unfold srt
  refine List.mergeSort_of_pairwise ?_
  refine List.pairwise_map.2 (h.imp fun {a b} hab => ?_)
  simp only [decide_eq_true_eq]
  exact fun hba => by_irr _ (by_trans hab hba)
end Go.Proofs.YtpeefmbdhkfhmaaGreatDoor.Kg
/- sums, no program in it: the document's view and the program's tell the same, list by list. -/
namespace Go.Proofs.YtpeefmbdhkfhmaaGreatDoor.Kg
open Go Go.RowKit Go.Shelf Go.ChangeShapes Go.WideShapes Go.ChangeAt Go.Maps
set_option linter.unusedVariables false
set_option linter.unusedSimpArgs false
set_option maxRecDepth 100000
set_option maxHeartbeats 8000000
theorem foldl_ris : ∀ (M L : List ByteArray), Ris L → Ris (M.foldl insL L) ∧ ∀ z, z ∈ M.foldl insL L ↔ z ∈ M ∨ z ∈ L := by
  intro M
  induction M with
  | nil => intro L h; exact ⟨h, fun z => by simp⟩
  | cons y M ih =>
    intro L h
    obtain ⟨h1, h2⟩ := ins_ris h y
    obtain ⟨h3, h4⟩ := ih (insL L y) h1
    refine ⟨h3, fun z => ?_⟩
    rw [List.foldl_cons, h4, h2, List.mem_cons]
    grind
theorem sumL_is {Ns : List ByteArray} {As : List Int} (s : ByteArray) : sumL (amtsOf Ns As s) = if -9223372036854775807 ≤ own (rw8 Ns As) s.data.toList ∧ own (rw8 Ns As) s.data.toList ≤ 9223372036854775807 then (own (rw8 Ns As) s.data.toList, 0) else (0, 11) := by
  unfold sumL
  rw [own_amts]
theorem fits_am {L : Rows8} (h : fits L) (k : List UInt8) : isAm (own L k) := fits_own h k
theorem own_fit {Ns : List ByteArray} {As : List Int} (h : fits (rw8 Ns As)) (s : ByteArray) : sumL (amtsOf Ns As s) = (own (rw8 Ns As) s.data.toList, 0) := by
  rw [sumL_is, if_pos (show -9223372036854775807 ≤ _ ∧ _ ≤ (9223372036854775807 : Int) from fits_am h _)]
theorem roll_fit {Ns : List ByteArray} {As : List Int} (h : fits (rw8 Ns As)) (hn : named (rw8 Ns As)) (s : ByteArray) : (sumL (selOf (rolB s) Ns As)).1 = roll ups (rw8 Ns As) s.data.toList := by
  unfold sumL
  rw [roll_sel hn]
  have hr : isA (roll ups (rw8 Ns As) s.data.toList) := fits_roll h _
  rw [if_pos hr]
theorem cover {Ns : List ByteArray} {As : List Int} : ∀ k, own (rw8 Ns As) k ≠ 0 → k ∈ (accs Ns).map (·.data.toList) := fun k hk => by
  have := own_in (rw8 Ns As) k hk
  rw [mem_nub] at this
  obtain ⟨r, hr, rfl⟩ := List.mem_map.1 this
  obtain ⟨p, hp, rfl⟩ := List.mem_map.1 hr
  exact List.mem_map.2 ⟨p.1, ((accs_ris Ns).2 p.1).2 (List.of_mem_zip hp).1, rfl⟩
theorem DEB_accs (Ns : List ByteArray) (As : List Int) : DEB (rw8 Ns As) = sm (fun s => pos (own (rw8 Ns As) s.data.toList)) (accs Ns) := by
  have h : DEB (rw8 Ns As) = deb (rw8 Ns As) ((accs Ns).map (·.data.toList)) := deb_same (nodup_nub _) (ris_nodup (accs_ris Ns).1) (own_in _) cover (fun _ => rfl)
  rw [h]
  unfold deb
  rw [sm_map]
theorem CRE_accs (Ns : List ByteArray) (As : List Int) : CRE (rw8 Ns As) = sm (fun s => neg (own (rw8 Ns As) s.data.toList)) (accs Ns) := by
  have h : CRE (rw8 Ns As) = cre (rw8 Ns As) ((accs Ns).map (·.data.toList)) := cre_same (nodup_nub _) (ris_nodup (accs_ris Ns).1) (own_in _) cover (fun _ => rfl)
  rw [h]
  unfold cre
  rw [sm_map]
theorem ups_sum {Ns : List ByteArray} {As : List Int} {A : List ByteArray} (h : ∀ s ∈ A, isAm (own (rw8 Ns As) s.data.toList)) : (upsL (ownsL Ns As A)).sum = sm (fun s => pos (own (rw8 Ns As) s.data.toList)) A := by
  unfold upsL ownsL
  rw [sm_sum, sm_map]
  refine sm_congr fun s hs => ?_
  rw [sumL_is, if_pos (show -9223372036854775807 ≤ _ ∧ _ ≤ (9223372036854775807 : Int) from h s hs)]
  simp only [decide_eq_true_eq]
  rfl
theorem dns_sum {Ns : List ByteArray} {As : List Int} {A : List ByteArray} (h : ∀ s ∈ A, isAm (own (rw8 Ns As) s.data.toList)) : (dnsL (ownsL Ns As A)).sum = sm (fun s => neg (own (rw8 Ns As) s.data.toList)) A := by
  unfold dnsL ownsL
  rw [sm_sum (fun p : Int × Int => -p.1), sm_map]
  refine sm_congr fun s hs => ?_
  rw [sumL_is, if_pos (show -9223372036854775807 ≤ _ ∧ _ ≤ (9223372036854775807 : Int) from h s hs)]
  unfold neg
  by_cases hp : 0 < own (rw8 Ns As) s.data.toList
  · rw [if_neg (by simp [hp]), if_pos hp]
  · rw [if_pos (by simp [hp]), if_neg hp]
/-- what sides answers -/
theorem sid_fits (Ns : List ByteArray) (As : List Int) : (fits (rw8 Ns As) → sidS Ns As = (DEB (rw8 Ns As), CRE (rw8 Ns As), 0)) ∧ (¬ fits (rw8 Ns As) → (sidS Ns As).2.2 = 11) := by
  have hd := DEB_nonneg (rw8 Ns As)
  have hc := CRE_nonneg (rw8 Ns As)
  by_cases hall : ∀ s ∈ accs Ns, isAm (own (rw8 Ns As) s.data.toList)
  · have hany : ¬ (ownsL Ns As (accs Ns)).any (fun p => p.2 != 0) = true := by
      intro h
      obtain ⟨p, hp, hne⟩ := List.any_eq_true.1 h
      unfold ownsL at hp
      obtain ⟨s, hs, rfl⟩ := List.mem_map.1 hp
      rw [sumL_is, if_pos (show -9223372036854775807 ≤ _ ∧ _ ≤ (9223372036854775807 : Int) from hall s hs)] at hne
      simp at hne
    have e1 := ups_sum hall
    have e2 := dns_sum hall
    rw [← DEB_accs] at e1
    rw [← CRE_accs] at e2
    have s1 : sumL (upsL (ownsL Ns As (accs Ns))) = if DEB (rw8 Ns As) ≤ 9223372036854775807 then (DEB (rw8 Ns As), 0) else (0, 11) := by
      unfold sumL
      rw [e1]
      by_cases h : DEB (rw8 Ns As) ≤ 9223372036854775807
      · rw [if_pos ⟨by omega, h⟩, if_pos h]
      · rw [if_neg (fun k => h k.2), if_neg h]
    have s2 : sumL (dnsL (ownsL Ns As (accs Ns))) = if CRE (rw8 Ns As) ≤ 9223372036854775807 then (CRE (rw8 Ns As), 0) else (0, 11) := by
      unfold sumL
      rw [e2]
      by_cases h : CRE (rw8 Ns As) ≤ 9223372036854775807
      · rw [if_pos ⟨by omega, h⟩, if_pos h]
      · rw [if_neg (fun k => h k.2), if_neg h]
    unfold sidS
    rw [if_neg hany, s1, s2]
    unfold fits
    by_cases h1 : DEB (rw8 Ns As) ≤ 9223372036854775807
    · by_cases h2 : CRE (rw8 Ns As) ≤ 9223372036854775807
      · rw [if_pos h1, if_pos h2]
        exact ⟨fun _ => by simp, fun h => absurd ⟨h1, h2⟩ h⟩
      · rw [if_pos h1, if_neg h2]
        exact ⟨fun h => absurd h.2 h2, fun _ => by simp⟩
    · rw [if_neg h1]
      exact ⟨fun h => absurd h.1 h1, fun _ => by simp⟩
  · have hany : (ownsL Ns As (accs Ns)).any (fun p => p.2 != 0) = true := by
      rw [List.any_eq_true]
      simp only [Classical.not_forall] at hall
      obtain ⟨s, hs, hn⟩ := hall
      refine ⟨sumL (amtsOf Ns As s), List.mem_map.2 ⟨s, hs, rfl⟩, ?_⟩
      rw [sumL_is, if_neg (show ¬ (-9223372036854775807 ≤ _ ∧ _ ≤ (9223372036854775807 : Int)) from hn)]
      simp
    unfold sidS
    rw [if_pos hany]
    exact ⟨fun h => absurd (fun s _ => fits_am h _) hall, fun _ => rfl⟩
theorem abv_mem (s z : ByteArray) : z ∈ abvL s ↔ z.data.toList ∈ s.data.toList :: ups s.data.toList := by
  have hx : ∀ k, (s.extract 0 k).data.toList = s.data.toList.take k := fun k => by simp [ByteArray.data_extract]
  unfold abvL abvF
  rw [List.mem_append, List.mem_singleton, List.mem_cons, mem_ups, ba_ext]
  constructor
  · rintro (h | h)
    · obtain ⟨k, hk, h⟩ := List.mem_flatMap.1 h
      split at h
      next hc =>
        rw [List.mem_singleton] at h
        exact .inr ⟨k, hc, by rw [h, hx]⟩
      next => cases h
    · exact .inl h
  · rintro (h | ⟨j, hj, h⟩)
    · exact .inr h
    · refine .inl (List.mem_flatMap.2 ⟨j, ?_, ?_⟩)
      · rw [List.mem_range]
        have := lt_of_colon hj
        simpa using this
      · rw [if_pos hj, List.mem_singleton, ← ba_ext, hx]
        exact h
/-- the names of State: they rise, and are those that hold something, or stand above such -/
theorem stN_ris {Ns : List ByteArray} {As : List Int} (h : fits (rw8 Ns As)) : Ris (stN Ns As (accs Ns)) ∧ ∀ z, z ∈ stN Ns As (accs Ns) ↔ heldBy (rw8 Ns As) z.data.toList := by
  have key : ∀ (A N : List ByteArray), Ris N → Ris (A.foldl (stS Ns As) N) ∧ ∀ z, z ∈ A.foldl (stS Ns As) N ↔ (∃ s ∈ A, own (rw8 Ns As) s.data.toList ≠ 0 ∧ z ∈ abvL s) ∨ z ∈ N := by
    intro A
    induction A with
    | nil => intro N hN; exact ⟨hN, fun z => by simp⟩
    | cons s A ih =>
      intro N hN
      rw [List.foldl_cons]
      by_cases h0 : own (rw8 Ns As) s.data.toList = 0
      · have e : stS Ns As N s = N := by unfold stS; rw [own_fit h, if_pos h0]
        rw [e]
        obtain ⟨h1, h2⟩ := ih N hN
        refine ⟨h1, fun z => ?_⟩
        rw [h2]
        simp only [List.mem_cons, exists_eq_or_imp, h0]
        grind
      · have e : stS Ns As N s = (abvL s).foldl insL N := by unfold stS; rw [own_fit h, if_neg h0]
        rw [e]
        obtain ⟨g1, g2⟩ := foldl_ris (abvL s) N hN
        obtain ⟨h1, h2⟩ := ih _ g1
        refine ⟨h1, fun z => ?_⟩
        rw [h2, g2]
        simp only [List.mem_cons, exists_eq_or_imp]
        grind
  obtain ⟨h1, h2⟩ := key (accs Ns) [] List.Pairwise.nil
  refine ⟨h1, fun z => ?_⟩
  unfold stN
  rw [h2]
  simp only [List.not_mem_nil, or_false]
  unfold heldBy
  constructor
  · rintro ⟨s, hs, h0, hz⟩
    exact ⟨s.data.toList, h0, (abv_mem s z).1 hz⟩
  · rintro ⟨x, h0, hz⟩
    obtain ⟨s, hs, rfl⟩ := List.mem_map.1 (cover x h0)
    exact ⟨s, hs, h0, (abv_mem s z).2 hz⟩
theorem enc_ba (s : ByteArray) : encStr s.data.toList = .string s := by cases s; simp [encStr]
theorem balC_flat (f g : List UInt8 → Int) (N : List ByteArray) : balC f g (N.map (·.data.toList)) = kB.flat (N.map fun s => (⟨s, f s.data.toList, g s.data.toList⟩ : Bl)) := by
  unfold balC Kd.flat
  rw [List.flatMap_map, List.flatMap_map]
  congr 1
/-- both States are one list -/
theorem state_same {Ns : List ByteArray} {As : List Int} (h : fits (rw8 Ns As)) (hn : named (rw8 Ns As)) {hs : List (List UInt8)} (nd : hs.Nodup) (hm : ∀ k, k ∈ hs ↔ heldBy (rw8 Ns As) k) :
    hs.length = (stB Ns As (stN Ns As (accs Ns))).length ∧ balC (own (rw8 Ns As)) (roll ups (rw8 Ns As)) (srt hs) = kB.flat (stB Ns As (stN Ns As (accs Ns))) := by
  obtain ⟨r1, r2⟩ := stN_ris h
  have e : srt hs = (stN Ns As (accs Ns)).map (·.data.toList) := ris_srt r1 nd (fun k => by
    rw [hm]
    constructor
    · intro hk
      refine List.mem_map.2 ⟨⟨k.toArray⟩, (r2 _).2 ?_, by simp⟩
      simpa using hk
    · intro hk
      obtain ⟨z, hz, rfl⟩ := List.mem_map.1 hk
      exact (r2 z).1 hz)
  have e2 : stB Ns As (stN Ns As (accs Ns)) = (stN Ns As (accs Ns)).map fun s => (⟨s, own (rw8 Ns As) s.data.toList, roll ups (rw8 Ns As) s.data.toList⟩ : Bl) := by
    unfold stB
    refine List.map_congr_left fun s _ => ?_
    rw [own_fit h, roll_fit h hn]
  refine ⟨?_, by rw [e, balC_flat, e2]⟩
  have := congrArg List.length e
  rw [srt_len] at this
  rw [this, e2, List.length_map, List.length_map]
theorem trL_is {Ns : List ByteArray} {As : List Int} (h : fits (rw8 Ns As)) (A : List ByteArray) : trL Ns As A = (A.filter fun s => decide (own (rw8 Ns As) s.data.toList ≠ 0)).map fun s => (⟨s, pos (own (rw8 Ns As) s.data.toList), neg (own (rw8 Ns As) s.data.toList)⟩ : Cm) := by
  unfold trL
  induction A with
  | nil => rfl
  | cons s A ih =>
    rw [List.flatMap_cons, ih, own_fit h]
    unfold colOf
    simp only
    by_cases h1 : 0 < own (rw8 Ns As) s.data.toList
    · rw [if_pos h1, List.filter_cons_of_pos (by simp; omega), List.map_cons]
      simp [pos, neg, h1]
    · by_cases h2 : own (rw8 Ns As) s.data.toList < 0
      · rw [if_neg h1, if_pos h2, List.filter_cons_of_pos (by simp; omega), List.map_cons]
        simp [pos, neg, h1]
      · rw [if_neg h1, if_neg h2, List.filter_cons_of_neg (by simp; omega)]
        rfl
theorem colC_flat (f g : List UInt8 → Int) (N : List ByteArray) : balC f g (N.map (·.data.toList)) = kM.flat (N.map fun s => (⟨s, f s.data.toList, g s.data.toList⟩ : Cm)) := by
  unfold balC Kd.flat
  rw [List.flatMap_map, List.flatMap_map]
  congr 1
/-- both Trials are one list -/
theorem trial_same {Ns : List ByteArray} {As : List Int} (h : fits (rw8 Ns As)) {ss : List (List UInt8)} (nd : ss.Nodup) (hm : ∀ k, k ∈ ss ↔ own (rw8 Ns As) k ≠ 0) :
    ss.length = (trL Ns As (accs Ns)).length ∧ colC (own (rw8 Ns As)) (srt ss) = kM.flat (trL Ns As (accs Ns)) := by
  obtain ⟨r1, r2⟩ := accs_ris Ns
  have hr : Ris ((accs Ns).filter fun s => decide (own (rw8 Ns As) s.data.toList ≠ 0)) := r1.filter _
  have e : srt ss = ((accs Ns).filter fun s => decide (own (rw8 Ns As) s.data.toList ≠ 0)).map (·.data.toList) := ris_srt hr nd (fun k => by
    rw [hm]
    constructor
    · intro hk
      obtain ⟨s, hs, rfl⟩ := List.mem_map.1 (cover k hk)
      exact List.mem_map.2 ⟨s, List.mem_filter.2 ⟨hs, by simpa using hk⟩, rfl⟩
    · intro hk
      obtain ⟨z, hz, rfl⟩ := List.mem_map.1 hk
      have := (List.mem_filter.1 hz).2
      simpa using this)
  refine ⟨?_, by unfold colC; rw [e, colC_flat, trL_is h]⟩
  have := congrArg List.length e
  rw [srt_len] at this
  rw [this, trL_is h, List.length_map, List.length_map]
end Go.Proofs.YtpeefmbdhkfhmaaGreatDoor.Kg
