import Derived.Test.YtmgnlgobkkfjhaaGreatDoorW04
import Derived.Test.YtmgnlgobkkfjhaaGreatDoorW08
import Derived.Lib.LaidTab
import Derived.Sort.Grow
import Derived.Lib.ItoaLen
import Derived.Shelf.SlSortCmp.QuietGrown
import Derived.Deep.RegionHeld3
import Derived.Test.YtmgnlgobkkfjhaaGreatDoorW07
/- The keeper's marks: text (236), behind (197), Book.id (193); quiet regions. -/
namespace Go.Proofs.YtmgnlgobkkfjhaaGreatDoor.Kg
open Go Go.ChangeShapes Go.WideShapes Go.ChangeAt Go.RowKit Go.Sort
set_option linter.unusedVariables false
theorem bal {w W : World} (h : Below w.heap.size w W) (o : Obj) : Below w.heap.size w (W.alloc o) := h.alloc h.size o
/-- the powers of ten lie in their variable -/
def Pw (w : World) : Prop := Lib.TabIs Tryz.prog w "internal/strconv.uint64pow10" .u64 Lib.pow10Tab
theorem pw_no : Tryz.prog.globalNamed "internal/strconv.uint64pow10" = some 1 := by kernel_rfl
theorem Pw.keep {w w' : World} (h : Pw w) (hb : w'.heap[1]? = w.heap[1]?) : Pw w' := by
  unfold Pw Lib.TabIs World.var? at h ⊢
  rw [pw_no] at h ⊢
  simp only [Option.bind_some] at h ⊢
  rw [hb]
  exact h
theorem Pw.lt {w : World} (h : Pw w) : 1 < w.heap.size := by
  unfold Pw Lib.TabIs World.var? at h
  rw [pw_no] at h
  simp only [Option.bind_some] at h
  rcases Nat.lt_or_ge 1 w.heap.size with h' | h'
  · exact h'
  · rw [Array.getElem?_eq_none h'] at h; cases h
theorem Pw.below {w w' : World} (h : Pw w) (hb : Below w.heap.size w w') : Pw w' := h.keep (hb.block 1 h.lt)
/-- a world some draws later, with some blocks behind it -/
def Grn (w w' : World) : Prop := ∃ q os, w' = grow (w.drewN q) os
theorem Grn.trans {a b c : World} (h : Grn a b) (k : Grn b c) : Grn a c := by
  obtain ⟨q, os, rfl⟩ := h
  obtain ⟨q', os', rfl⟩ := k
  exact ⟨q + q', os ++ os', by show grow (grow ((a.drewN q).drewN q') os) os' = _; rw [grow_grow, World.drewN_drewN]⟩
theorem Grn.refl (w : World) : Grn w w := ⟨0, #[], by rw [grow_empty]; rfl⟩
theorem Grn.below {w w' : World} (h : Grn w w') : Below w.heap.size w w' := by
  obtain ⟨q, os, rfl⟩ := h
  exact ⟨rfl, rfl, rfl, by simp, fun k hk => heap_grow_old (w.drewN q) os hk⟩
/-- a number's digits -/
def itS (n : Nat) : ByteArray := ⟨(Lib.itoa (n : Int)).toArray⟩
theorem itoa_any (n : Nat) (hn : n < 1000000) (w : World) (h : Pw w) : Calls Tryz.prog 153 #[.int .i64 (n : Int)] w fun e w' => e = .returned (.string (itS n)) ∧ Grn w w' :=
  (Tryz.strconv_Itoa (n : Int) (by omega) (by omega) w h)
theorem itS_size (n : Nat) (hn : n < 1000000) : (itS n).size ≤ 21 := by
  have h := Lib.itoa_length_le (n : Int) (by omega) (by omega)
  simpa [itS, ByteArray.size] using h
/-- a mark that is a text -/
def mkS (id k : Nat) : ByteArray := (⟨#[109, 97, 114, 107, 32]⟩ : ByteArray) ++ itS id ++ (⟨#[32]⟩ : ByteArray) ++ itS k
set_option maxHeartbeats 1000000 in
theorem text_any (id k : Nat) (hid : id < 1000000) (hk : k < 1000000) (w : World) (h : Pw w) : Calls Tryz.prog 72 #[.int .i64 (id : Int), .int .i64 (k : Int)] w fun e w' => e = .returned (.string (mkS id k)) ∧ Grn w w' := by
  have d1 := hide (itoa_any id hid w h)
  have HP := hide h
  have s1 := itS_size id hid
  have s2 := itS_size k hk
  have n1 : ¬ 9223372036854775807 < 5 + (itS id).size := by omega
  have n2 : ¬ 9223372036854775807 < 5 + (itS id).size + 1 := by omega
  have n3 : ¬ 9223372036854775807 < 5 + (itS id).size + 1 + (itS k).size := by omega
  clear h
  go_enter Tryz.func72, Tryz.ntmps72
  go_wp2_with fail
  refine (unhide d1).mono ?_
  rintro e w1 ⟨rfl, hg⟩
  have G1 := hide hg
  have d2 := hide (itoa_any k hk w1 ((unhide HP).below hg.below))
  clear hg
  go_wp2_with fail
  refine (unhide d2).mono ?_
  rintro e w2 ⟨rfl, hg⟩
  have G2 := hide hg
  clear hg
  go_wp2_with fail
  go_ret
  exact ⟨rfl, (unhide G1).trans (unhide G2)⟩
set_option maxHeartbeats 1000000 in
theorem behind_any (id : Nat) (hid : id < 1000) (w : World) : Calls Tryz.prog 170 #[.int .i64 (id : Int)] w fun e w' => e = .returned (.int .i64 ((id + 100000 : Nat) : Int)) ∧ w' = w := by
  go_enter Tryz.func170, Tryz.ntmps170
  go_wp2_with fail
  go_ret
  exact ⟨by simp, rfl⟩
set_option maxHeartbeats 1000000 in
theorem id_any (bk k : Nat) (hk : k < 1000) (w : World) (h : w.cell? ⟨bk, 0, none⟩ = some (.int .i64 (k : Int))) (hf : w.frozen? ⟨bk, 0, none⟩ = false) : Calls Tryz.prog 92 #[.pointer (some ⟨bk, 0, none⟩)] w fun e w' => e = .returned (.int .i64 ((k : Int) + 1)) ∧ w' = w.setCell ⟨bk, 0, none⟩ (.int .i64 ((k : Int) + 1)) := by
  have h2 : (w.setCell ⟨bk, 0, none⟩ (.int .i64 ((k : Int) + 1))).cell? ⟨bk, 0, none⟩ = some (.int .i64 ((k : Int) + 1)) := World.cell?_setCell_same _ _ _ h
  go_enter Tryz.func92, Tryz.ntmps92
  go_wp2_with fail
  go_ret
  exact ⟨rfl, rfl⟩
structure Bel (w : World) where
  W : World
  h : Below w.heap.size w W
@[reducible] def belInh (w : World) : Inhabited (Bel w) := ⟨⟨w, Below.refl _ _⟩⟩
attribute [instance] belInh
theorem wp_region_quiet_below {id : Nat} {Q : Exit → Act → World → Prop} {a : Act} {w : World} {l : List Oper} (hm : Tryz.prog.follows .mixedOrders = true) (hB : Region.lexB .any l.toArray = true)
    (h : wpQuiet Tryz.prog l.toArray (fun w' => ∃ p : Bel w, w' = p.W) (fun a' => ∀ w', (∃ p : Bel w, w' = p.W) → Q .normal a' w') l a) : (Code.region id l.toArray true).wp Tryz.prog Q a w :=
  wp_region_quiet (C := fun w' => ∃ p : Bel w, w' = p.W) hm hB ⟨⟨w.drew, below_drewN (Below.refl _ w) 1⟩, rfl⟩ (by simpa using h)
end Go.Proofs.YtmgnlgobkkfjhaaGreatDoor.Kg
/- The document's daily: At (25), fits (85). -/
namespace Go.Proofs.YtmgnlgobkkfjhaaGreatDoor.Kg
open Go Go.RowKit Go.Shelf Go.ChangeShapes Go.WideShapes Go.ChangeAt Go.Maps
set_option linter.unusedVariables false
set_option linter.unusedSimpArgs false
set_option maxRecDepth 100000
set_option maxHeartbeats 8000000
theorem belCalls {wr : World} (P : Bel wr) {f : Nat} {xs : Array Value} {v : Value} (h : Calls Tryz.prog f xs P.W fun e w' => e = .returned v ∧ Below P.W.heap.size P.W w') : Calls Tryz.prog f xs P.W fun e w'' => e = .returned v ∧ ∃ q : Bel wr, w'' = q.W :=
  h.mono (fun e w' ⟨h1, h2⟩ => ⟨h1, ⟨w', P.h.trans (h2.mono P.h.size)⟩, rfl⟩)
theorem rat_any {W : World} {d : Nat} {S : Nat → Prop} {R : List Ro} (hR : Rd W d S R) (s : ByteArray) (day : Int) :
    Calls Tryz.prog 25 #[.pointer (some ⟨d, 0, none⟩), .string s, .int .i64 day] W fun e w' => e = .returned (.int .i64 (sumL (amtS R s 0 day)).1) ∧ Below W.heap.size W w' := by
  have dC := hide (change_any hR s 0 day)
  obtain ⟨r1, hr1⟩ : ∃ r1, r1 = (sumL (amtS R s 0 day)).1 := ⟨_, rfl⟩
  obtain ⟨r2, hr2⟩ : ∃ r2, r2 = (sumL (amtS R s 0 day)).2 := ⟨_, rfl⟩
  rw [← hr1, ← hr2] at dC
  rw [← hr1]
  clear hR hr1 hr2
  go_enter Tryz.func25, Tryz.ntmps25
  go_wp2_with fail
  refine (unhide dC).mono ?_
  rintro e w2 ⟨rfl, hb2⟩
  have HB := hide hb2
  clear hb2
  go_wp2_with fail
  go_ret
  exact ⟨rfl, unhide HB⟩
def okF (R : List Ro) (r : Ro) : Prop := (sumL (amtS R r.acc r.day r.day)).2 = 0 ∧ (sumL (amtS R r.acc 0 r.day)).2 = 0
def FtOut (R : List Ro) (W : World) (e : Ending) (w' : World) : Prop := (∃ b, e = .returned (.bool b) ∧ (b = true ↔ ∀ r ∈ R, okF R r)) ∧ Below W.heap.size W w'
theorem fits_any {W : World} {d : Nat} {S : Nat → Prop} {R : List Ro} (hR : Rd W d S R) :
    Calls Tryz.prog 85 #[.pointer (some ⟨d, 0, none⟩)] W fun e w' => FtOut R W e w' := by
  obtain ⟨pn, cn, c0, hl0, _⟩ := hR.list
  have hdl : d < W.heap.size := hR.lt d hR.sd
  have hfew := hR.few
  obtain ⟨n, hn⟩ : ∃ n, n = R.length := ⟨_, rfl⟩
  rw [← hn] at c0 hfew
  have HC : Hid (∀ w', Below W.heap.size W w' → w'.cell? ⟨d, 0, none⟩ = some (.slice pn n cn)) := fun w' hb => keep1 hb hdl c0
  have HL := hide hl0; have HN := hide hn; have HR := hide hR
  clear hR hl0 hn c0
  go_enter Tryz.func85, Tryz.ntmps85
  go_upto_region 2 with fail
  go_loopw [3] (fun v3 wr => ∃ (i : Nat), v3 = .int .i64 i ∧ i ≤ n ∧ Hid ((∀ r ∈ R.take i, okF R r) ∧ Below W.heap.size W wr)) (fun v3 _ => n - (intOf v3).toNat)
  case atStart => exact ⟨0, rfl, by omega, (fun r h => by simp at h), Below.refl _ _⟩
  case round =>
    obtain ⟨i, rfl, hi, hrel⟩ := hrel
    obtain ⟨hok, hbel⟩ := unhide hrel
    have q0 := unhide HC wr hbel
    by_cases hlt : i < n
    · have hiN : i < R.length := by rw [← unhide HN]; exact hlt
      obtain ⟨b, off, e, hbl, r0, r1, r2, r3⟩ := Rd.row (unhide HL) hiN
      clear r2 r3
      obtain ⟨x, hx⟩ : ∃ x, x = R[i] := ⟨_, rfl⟩
      rw [← hx] at r0 r1
      have hxm : x ∈ R := by rw [hx]; exact List.getElem_mem hiN
      have het : R.take (i + 1) = R.take i ++ [x] := by rw [List.take_succ_eq_append_getElem hiN, ← hx]
      subst e
      have hI : (i : Int) < (n : Int) := by omega
      have hI0 : (0 : Int) ≤ (i : Int) := by omega
      obtain ⟨xs, hxs⟩ : ∃ y, y = x.acc := ⟨_, rfl⟩
      obtain ⟨xd, hxd⟩ : ∃ y, y = x.day := ⟨_, rfl⟩
      rw [← hxs] at r0
      rw [← hxd] at r1
      obtain ⟨a1, ha1⟩ : ∃ z, z = (sumL (amtS R xs xd xd)).1 := ⟨_, rfl⟩
      obtain ⟨a2, ha2⟩ : ∃ z, z = (sumL (amtS R xs xd xd)).2 := ⟨_, rfl⟩
      obtain ⟨b1, hb1⟩ : ∃ z, z = (sumL (amtS R xs 0 xd)).1 := ⟨_, rfl⟩
      obtain ⟨b2, hb2⟩ : ∃ z, z = (sumL (amtS R xs 0 xd)).2 := ⟨_, rfl⟩
      have H1 : Hid (∀ (w1 : World), Below W.heap.size W w1 → ∀ P : Bel w1, Calls Tryz.prog 90 #[.pointer (some ⟨d, 0, none⟩), .string xs, .int .i64 xd, .int .i64 xd] P.W fun e w'' => e = .returned (.tuple #[.int .i64 a1, .int .i64 a2]) ∧ ∃ q : Bel w1, w'' = q.W) := fun w1 hb P => by
        rw [ha1, ha2]; exact belCalls P (change_any (((unhide HR).below hb).below P.h) xs xd xd)
      have H2 : Hid (∀ (w1 : World), Below W.heap.size W w1 → ∀ P : Bel w1, Calls Tryz.prog 90 #[.pointer (some ⟨d, 0, none⟩), .string xs, .int .i64 0, .int .i64 xd] P.W fun e w'' => e = .returned (.tuple #[.int .i64 b1, .int .i64 b2]) ∧ ∃ q : Bel w1, w'' = q.W) := fun w1 hb P => by
        rw [hb1, hb2]; exact belCalls P (change_any (((unhide HR).below hb).below P.h) xs 0 xd)
      have HOK : Hid (okF R x ↔ a2 = 0 ∧ b2 = 0) := by unfold okF; rw [ha2, hb2, hxs, hxd]; exact Iff.rfl
      have HX : Hid (∀ (w1 : World), Below W.heap.size W w1 → (∀ P : Bel w1, P.W.cell? ⟨d, 0, none⟩ = some (.slice (some ⟨b, off, none⟩) n cn)) ∧ True) := fun w1 hb => ⟨fun P => unhide HC P.W (hb.trans (P.h.mono hb.size)), trivial⟩
      have HK0 : Hid (∀ (w1 : World), Below W.heap.size W w1 → (∀ P : Bel w1, P.W.cell? ⟨b, off + i * 4, none⟩ = some (.string xs)) ∧ ∀ P : Bel w1, P.W.cell? ⟨b, off + i * 4 + 1, none⟩ = some (.int .i64 xd)) := fun w1 hb => ⟨fun P => keep1 (hb.trans (P.h.mono hb.size)) hbl r0, fun P => keep1 (hb.trans (P.h.mono hb.size)) hbl r1⟩
      have HXM := hide hxm; have HET := hide het; have HO := hide hok; have HB := hide hbel
      clear hok hbel hrel hiN hbl r0 r1 hx hxm het hxs hxd ha1 ha2 hb1 hb2
      go_upto_region 4 with fail
      have x0 := (unhide HX wr (unhide HB)).1
      obtain ⟨k0, k1⟩ := unhide HK0 wr (unhide HB)
      have D1 := hide (unhide H1 wr (unhide HB))
      refine wp_region_quiet_below (by kernel_rfl) (by kernel_rfl) ?_
      repeat (go_big_quiet_step (first | (go_at_call 90; refine unhide D1 _)))
      refine wpQuiet_nil ?_
      rintro _ ⟨P, rfl⟩
      have HB1 := hide ((unhide HB).trans (P.h.mono (unhide HB).size))
      obtain ⟨w3, hw3⟩ : ∃ w3, w3 = P.W := ⟨_, rfl⟩
      rw [← hw3] at HB1 ⊢
      clear hw3 P x0 k0 k1 D1 H1 HB q0 wr
      go_upto_region 5 with fail
      have x0 := (unhide HX w3 (unhide HB1)).1
      obtain ⟨k0, k1⟩ := unhide HK0 w3 (unhide HB1)
      have D1 := hide (unhide H2 w3 (unhide HB1))
      refine wp_region_quiet_below (by kernel_rfl) (by kernel_rfl) ?_
      repeat (go_big_quiet_step (first | (go_at_call 90; refine unhide D1 _)))
      refine wpQuiet_nil ?_
      rintro _ ⟨P, rfl⟩
      have HB2 := hide ((unhide HB1).trans (P.h.mono (unhide HB1).size))
      obtain ⟨w4, hw4⟩ : ∃ w4, w4 = P.W := ⟨_, rfl⟩
      rw [← hw4] at HB2 ⊢
      clear hw4 P x0 k0 k1 D1 H2 HB1 w3
      by_cases h1 : a2 = 0
      · by_cases h2 : b2 = 0
        · have HF : Hid ((∀ r ∈ R.take (i + 1), okF R r) ∧ Below W.heap.size W w4) := ⟨fun z hz => by
            rw [unhide HET] at hz
            rcases List.mem_append.1 hz with hz | hz
            · exact unhide HO z hz
            · rw [List.mem_singleton] at hz
              rw [hz]
              exact (unhide HOK).2 ⟨h1, h2⟩, unhide HB2⟩
          clear HOK
          subst h1 h2
          go_wp2_with fail
          go_round
          case rel => exact ⟨i + 1, by push_cast; rfl, by omega, unhide HF⟩
          case measure => simp only [intOf]; omega
        · have HF : Hid (FtOut R W (.returned (.bool false)) w4) := ⟨⟨false, rfl, ⟨(fun h => by cases h), fun h => absurd ((unhide HOK).1 (h x (unhide HXM))).2 h2⟩⟩, unhide HB2⟩
          have hb2' : (b2 != 0) = true := by simp [h2]
          clear HOK
          subst h1
          go_wp2_with fail
          go_ret
          exact unhide HF
      · have HF : Hid (FtOut R W (.returned (.bool false)) w4) := ⟨⟨false, rfl, ⟨(fun h => by cases h), fun h => absurd ((unhide HOK).1 (h x (unhide HXM))).1 h1⟩⟩, unhide HB2⟩
        have ha2' : (a2 != 0) = true := by simp [h1]
        clear HOK
        go_wp2_with fail
        go_ret
        exact unhide HF
    · have hin : i = n := by omega
      have hI : ¬ (i : Int) < (n : Int) := by omega
      have e1 : R.take i = R := by rw [hin, unhide HN, List.take_length]
      rw [e1] at hok
      have HF : Hid (FtOut R W (.returned (.bool true)) wr) := ⟨⟨true, rfl, ⟨fun _ => hok, fun _ => rfl⟩⟩, hbel⟩
      clear hrel hok hbel e1
      go_wp2_with fail
      go_ret
      exact unhide HF
end Go.Proofs.YtmgnlgobkkfjhaaGreatDoor.Kg
/- The document's daily, plain: its sums, what Between and State make. -/
namespace Go.Proofs.YtmgnlgobkkfjhaaGreatDoor.Kg
open Go Go.RowKit Go.Shelf Go.ChangeShapes Go.WideShapes Go.ChangeAt Go.Maps
set_option linter.unusedVariables false
set_option linter.unusedSimpArgs false
set_option maxRecDepth 100000
set_option maxHeartbeats 8000000
theorem acc_iff (a s : ByteArray) : a = s ↔ a.data.toList = s.data.toList := by
  constructor
  · intro h; rw [h]
  · intro h
    cases a; cases s
    simp only [ByteArray.mk.injEq]
    exact Array.toList_inj.1 h
theorem amt_sm (R : List Ro) (s : ByteArray) (a b : Int) : (amtS R s a b).sum = sm (fun r => if inS s a b r = true then r.amt else 0) R := by
  unfold amtS
  induction R with
  | nil => rfl
  | cons r R ih =>
    rw [List.filter_cons]
    by_cases h : inS s a b r = true
    · rw [if_pos h, List.map_cons, List.sum_cons, ih]
      simp only [sm, if_pos h]
    · rw [if_neg h, ih]
      simp only [sm, if_neg h, Int.zero_add]
theorem tol_sm (R : List Ro) (k : List UInt8) (f : Int × Int → Int) : sm f (tol R k) = sm (fun r => if r.acc.data.toList = k then f (r.day, r.amt) else 0) R := by
  unfold tol
  rw [sm_map, sm_filter]
  exact sm_congr fun r _ => by simp
theorem amt_own (R : List Ro) (s : ByteArray) (x : Int) : (amtS R s x x).sum = own (tol R s.data.toList) x := by
  rw [amt_sm]
  unfold own
  rw [tol_sm]
  refine sm_congr fun r _ => ?_
  unfold inS
  by_cases h1 : r.acc = s
  · have h1' := (acc_iff _ _).1 h1
    by_cases h2 : r.day = x
    · simp [h1, h2]
    · have : ¬ (x ≤ r.day ∧ r.day ≤ x) := by omega
      simp [h1, h2, this]
  · have h1' : ¬ r.acc.data.toList = s.data.toList := fun e => h1 ((acc_iff _ _).2 e)
    simp only [h1, h1', decide_false, Bool.false_and, Bool.false_eq_true, if_false]
theorem amt_blc {R : List Ro} (hd : ∀ r ∈ R, 1 ≤ r.day) (s : ByteArray) (x : Int) : (amtS R s 0 x).sum = blc (tol R s.data.toList) x := by
  rw [amt_sm]
  unfold blc
  rw [tol_sm]
  refine sm_congr fun r hr => ?_
  have hd' := hd r hr
  unfold inS
  by_cases h1 : r.acc = s
  · have h0 : (0 : Int) ≤ r.day := by omega
    simp [h1, h0]
  · have h1' : ¬ r.acc.data.toList = s.data.toList := fun e => h1 ((acc_iff _ _).2 e)
    simp only [h1, h1', decide_false, Bool.false_and, Bool.false_eq_true, if_false]
theorem sumL_is {l : List Int} (h : isAm l.sum) : sumL l = (l.sum, 0) := by
  unfold sumL
  exact if_pos h
theorem sumL_ok {l : List Int} (h : (sumL l).2 = 0) : isAm l.sum := by
  unfold sumL at h
  split at h
  · assumption
  · simp at h
theorem max_day (d : Int) : ∀ T : Td, (∃ x ∈ T, x.1 ≤ d) → ∃ x ∈ T, x.1 ≤ d ∧ ∀ y ∈ T, y.1 ≤ d → y.1 ≤ x.1
  | [], h => by obtain ⟨x, hx, _⟩ := h; cases hx
  | z :: T, h => by
    by_cases hT : ∃ x ∈ T, x.1 ≤ d
    · obtain ⟨x, hx, h1, h2⟩ := max_day d T hT
      by_cases hz : z.1 ≤ d ∧ x.1 ≤ z.1
      · refine ⟨z, by simp, hz.1, fun y hy hyd => ?_⟩
        rcases List.mem_cons.1 hy with rfl | hy
        · exact Int.le_refl _
        · have := h2 y hy hyd; omega
      · refine ⟨x, by simp [hx], h1, fun y hy hyd => ?_⟩
        rcases List.mem_cons.1 hy with rfl | hy
        · omega
        · exact h2 y hy hyd
    · obtain ⟨x, hx, h1⟩ := h
      rcases List.mem_cons.1 hx with rfl | hx
      · refine ⟨x, by simp, h1, fun y hy hyd => ?_⟩
        rcases List.mem_cons.1 hy with rfl | hy
        · exact Int.le_refl _
        · exact absurd ⟨y, hy, hyd⟩ hT
      · exact absurd ⟨x, hx, h1⟩ hT
/-- what is to be looked at: the days that were told -/
theorem fit_of {T : Td} (h : ∀ x ∈ T, isA (own T x.1) ∧ isA (blc T x.1)) : fitT T := fun d => by
  constructor
  · by_cases hx : ∃ x ∈ T, x.1 = d
    · obtain ⟨x, hx, rfl⟩ := hx
      exact (h x hx).1
    · rw [own_none (fun r hr e => hx ⟨r, hr, e⟩)]
      exact ⟨by decide, by decide⟩
  · by_cases hx : ∃ x ∈ T, x.1 ≤ d
    · obtain ⟨x, hx, h1, h2⟩ := max_day d T hx
      have e : blc T d = blc T x.1 := sm_congr fun y hy => by
        by_cases hy1 : y.1 ≤ d
        · rw [decide_eq_true hy1, decide_eq_true (h2 y hy hy1)]
        · have : ¬ y.1 ≤ x.1 := by omega
          rw [decide_eq_false hy1, decide_eq_false this]
      rw [e]
      exact (h x hx).2
    · rw [blc_before (fun r hr => by
        by_cases h : d < r.1
        · exact h
        · exact absurd ⟨r, hr, by omega⟩ hx)]
      exact ⟨by decide, by decide⟩
theorem fits_iff {R : List Ro} (hd : ∀ r ∈ R, 1 ≤ r.day) : (∀ r ∈ R, okF R r) ↔ ∀ k, fitT (tol R k) := by
  constructor
  · intro h k
    refine fit_of fun x hx => ?_
    obtain ⟨r, hr, rfl, rfl⟩ := tol_mem hx
    obtain ⟨h1, h2⟩ := h r hr
    have h1 := sumL_ok h1
    have h2 := sumL_ok h2
    rw [amt_own] at h1
    rw [amt_blc hd] at h2
    exact ⟨h1, h2⟩
  · intro h r hr
    obtain ⟨h1, h2⟩ := h r.acc.data.toList r.day
    refine ⟨?_, ?_⟩
    · rw [sumL_is (by rw [amt_own]; exact h1)]
    · rw [sumL_is (by rw [amt_blc hd]; exact h2)]
/-- a list's part that falls into two, the one ahead of the other -/
theorem filter_two {α : Type} {r : α → α → Prop} {P A B : α → Bool} : ∀ {l : List α}, l.Pairwise r → (∀ x ∈ l, P x = (A x || B x)) → (∀ x ∈ l, A x = true → B x = false) → (∀ x ∈ l, ∀ y ∈ l, B x = true → A y = true → ¬ r x y) → l.filter P = l.filter A ++ l.filter B
  | [], _, _, _, _ => rfl
  | x :: l, hp, h1, h2, h3 => by
    rw [List.pairwise_cons] at hp
    have ih := filter_two hp.2 (fun y hy => h1 y (by simp [hy])) (fun y hy => h2 y (by simp [hy])) (fun y hy z hz => h3 y (by simp [hy]) z (by simp [hz]))
    have hx := h1 x (by simp)
    rw [List.filter_cons, List.filter_cons, List.filter_cons, hx]
    cases hA : A x with
    | true =>
      have hB := h2 x (by simp) hA
      rw [hB]
      simp [ih]
    | false =>
      cases hB : B x with
      | true =>
        have hn : l.filter A = [] := List.filter_eq_nil_iff.2 fun y hy hy' => h3 x (by simp) y (by simp [hy]) hB hy' (hp.1 y hy)
        rw [hn] at ih ⊢
        simp [ih]
      | false => simp [ih]
/-- the marks that Between has told of ahead of day f -/
def bt3 (S : List Mk) (f0 f tt : Int) : List Mk := S.filter fun m => decide (f0 ≤ m.1) && (decide (m.1 < f) && decide (m.1 ≤ tt))
theorem bt3_start (S : List Mk) (f tt : Int) : bt3 S f f tt = [] := List.filter_eq_nil_iff.2 fun m _ h => by
  simp only [Bool.and_eq_true, decide_eq_true_eq] at h
  omega
theorem bt3_end {S : List Mk} {f0 f tt : Int} (h : ∀ m ∈ S, f ≤ m.1 → tt < m.1) : bt3 S f0 f tt = btw S f0 tt := by
  unfold bt3 btw
  refine List.filter_congr fun m hm => ?_
  have := h m hm
  by_cases h1 : m.1 < f
  · simp [h1]
  · have : ¬ m.1 ≤ tt := by have := this (by omega); omega
    simp [h1, this]
theorem bt3_step {S : List Mk} (hS : S.Pairwise fun a b => a.1 < b.1) {f0 f tt day : Int} (h0 : f0 ≤ f) (h1 : f ≤ day) (h2 : day ≤ tt) (h : ∀ m ∈ S, f ≤ m.1 → m.1 ≤ tt → day ≤ m.1) : bt3 S f0 (day + 1) tt = bt3 S f0 f tt ++ S.filter fun m => decide (m.1 = day) := by
  unfold bt3
  refine filter_two hS (fun m hm => ?_) (fun m hm hA => ?_) (fun x hx y hy hB hA hr => ?_)
  · have hh := h m hm
    rw [Bool.eq_iff_iff]
    simp only [Bool.and_eq_true, Bool.or_eq_true, decide_eq_true_eq]
    constructor
    · rintro ⟨a, b, c⟩
      by_cases hf : m.1 < f
      · exact .inl ⟨a, hf, c⟩
      · have := hh (by omega) c
        exact .inr (by omega)
    · rintro (⟨a, b, c⟩ | a)
      · exact ⟨a, by omega, c⟩
      · exact ⟨by omega, by omega, by omega⟩
  · simp only [Bool.and_eq_true, decide_eq_true_eq] at hA
    simp only [decide_eq_false_iff_not]
    omega
  · simp only [Bool.and_eq_true, decide_eq_true_eq] at hA hB
    omega
theorem ser_at {T : Td} {S : List Mk} (h : Ser T S) (day : Int) : (S.filter fun m => decide (m.1 = day)) = if own T day = 0 then [] else [(day, own T day, blc T day)] := by
  have hup := h.up
  have key : ∀ m ∈ S, m.1 = day → m = (day, own T day, blc T day) := fun m hm e => by
    obtain ⟨h1, _, h3⟩ := h.is m hm
    rw [e] at h1 h3
    exact Prod.ext e (Prod.ext h1 h3)
  by_cases h0 : own T day = 0
  · rw [if_pos h0]
    refine List.filter_eq_nil_iff.2 fun m hm e => ?_
    simp only [decide_eq_true_eq] at e
    obtain ⟨h1, h2, _⟩ := h.is m hm
    rw [e, h0] at h1
    exact h2 h1
  · rw [if_neg h0]
    obtain ⟨m, hm, e⟩ := h.all day h0
    have hm' := key m hm e
    have hnd : ∀ l : List Mk, l.Pairwise (fun a b => a.1 < b.1) → m ∈ l → l.filter (fun m => decide (m.1 = day)) = [m] := by
      intro l
      induction l with
      | nil => intro _ h; cases h
      | cons x l ih =>
        intro hp hx
        rw [List.pairwise_cons] at hp
        rw [List.filter_cons]
        rcases List.mem_cons.1 hx with rfl | hx
        · rw [if_pos (by simpa using e), List.filter_eq_nil_iff.2 (fun y hy e2 => by
            have := hp.1 y hy
            simp only [decide_eq_true_eq] at e2
            omega)]
        · have := hp.1 m hx
          rw [if_neg (by simp only [decide_eq_true_eq]; omega), ih hp.2 hx]
    rw [hnd S hup hm, hm']
/-- a mark of an account as the document's row -/
def mq (s : ByteArray) (m : Mk) : Dq := ⟨s, m.1, m.2.1, m.2.2⟩
theorem own_row {R : List Ro} {s : ByteArray} {x : Int} (h : own (tol R s.data.toList) x ≠ 0) : ∃ r ∈ R, r.acc = s ∧ r.day = x := by
  by_cases hx : ∃ y ∈ tol R s.data.toList, y.1 = x
  · obtain ⟨y, hy, rfl⟩ := hx
    obtain ⟨r, hr, e, rfl⟩ := tol_mem hy
    exact ⟨r, hr, (acc_iff _ _).2 e, rfl⟩
  · exact absurd (own_none (fun r hr e => hx ⟨r, hr, e⟩)) h
end Go.Proofs.YtmgnlgobkkfjhaaGreatDoor.Kg
