import Derived.Test.YtddpladmkmpoaaaSplD
namespace Go.Proofs.Ytddpladmkmpoaaa
open Go.ChangeShapes Go.WideShapes Go.ChangeAt Go.RowKit Go.Sort Go.Lib Go.Shelf
set_option linter.unusedVariables false
theorem st_new (W : World) (p q : Int) (r : Nat) : (st50 (.pointer (some ⟨W.heap.size, 0, none⟩)) (.agg #[.int .i64 p, .int .i64 q, .int .u64 (r : Int)])).run Try.prog (W.alloc (.cells #[.int .i64 0, .int .i64 0, .int .u64 0] 71)) = .ok () (W.alloc (.cells #[.int .i64 p, .int .i64 q, .int .u64 (r : Int)] 71)) := by
  unfold st50
  simp [go_sem]
attribute [local go_sem ↓] ld50_is st50_is
/-- the shares in the order of their rests -/
structure Ord (T S : Nat) (zs : Nat → Int) (n : Nat) (c : Array Sh) : Prop where
  size : c.size = n
  perm : PermIn 0 n (mkA n n (shf T S zs)) c
  srt : Srt c 0 n
section
variable {T S n : Nat} {zs : Nat → Int} {c : Array Sh}
theorem mkA_full (f : Nat → Sh) {i : Nat} (h : i < n) : (mkA n n f)[i]! = f i := by rw [mkA_get f h, if_pos h]
theorem ris_mk (T S : Nat) (zs : Nat → Int) (n : Nat) : Ris (mkA n n (shf T S zs)) 0 n := by
  intro x y h1 h2 h3
  rw [mkA_full _ (by omega), mkA_full _ h3]
  show (x : Int) < (y : Int)
  omega
theorem Ord.mem (h : Ord T S zs n c) {j : Nat} (hj : j < n) : ∃ i, i < n ∧ c[j]! = shf T S zs i :=
  permIn_all _ c 0 n (fun z => ∃ i, i < n ∧ z = shf T S zs i) (by rw [mkA_size]; exact Nat.le_refl _) h.perm (fun i _ hi => ⟨i, hi, mkA_full _ hi⟩) j (Nat.zero_le _) hj
theorem Ord.sur (h : Ord T S zs n c) {i : Nat} (hi : i < n) : ∃ j, j < n ∧ c[j]! = shf T S zs i := by
  have P : PermIn 0 n c (mkA n n (shf T S zs)) := ⟨h.perm.1.symm, fun i hi => (h.perm.2.1 i hi).symm, h.perm.2.2.symm⟩
  have := permIn_all c _ 0 n (fun z => ∃ j, j < n ∧ c[j]! = z) (by rw [h.size]; exact Nat.le_refl _) P (fun j _ hj => ⟨j, hj, rfl⟩) i (Nat.zero_le _) hi
  rw [mkA_full _ hi] at this
  exact this
theorem lts_irr (x : Sh) : ¬ lts x x := by unfold lts; omega
theorem Ord.inj (h : Ord T S zs n c) {j k : Nat} (hj : j < k) (hk : k < n) : ¬ c[j]!.p = c[k]!.p := by
  intro e
  obtain ⟨i, hi, ei⟩ := h.mem (show j < n by omega)
  obtain ⟨l, hl, el⟩ := h.mem hk
  have hs := h.srt j k (Nat.zero_le _) hj hk
  rw [ei, el] at e
  have e' : (i : Int) = (l : Int) := e
  have : i = l := by omega
  subst this
  rw [ei, el] at hs
  exact lts_irr _ hs
/-- what the place number j in that order gets -/
def gets (T S : Nat) (zs : Nat → Int) (n : Nat) (neg : Bool) (c : Array Sh) (j : Nat) : Int :=
  if neg then -(c[j]!.q + (if j < T - cumQ T S zs n then 1 else 0)) else c[j]!.q + (if j < T - cumQ T S zs n then 1 else 0)
end
theorem info2s : (Try.prog.info? 2).map (fun i => (i.zero, i.size, i.bytes)) = some (some (.int .i64 0), 1, 8) := by kernel_rfl
theorem run_mk2 (n : Nat) (hn : n ≤ 1000) (w : World) : (Instr.makeSlice 22 (.int .i64 (n : Int)) (.int .i64 (n : Int))).run Try.prog w = .ok (.slice (some ⟨w.heap.size, 0, none⟩) n n) (w.alloc (.cells (madeCells #[.int .i64 0] n) 2)) := by
  obtain ⟨i0, hi, hz0, hsz, hz2⟩ := info_parts info2s
  have h := run_make (P := Try.prog) w 22 2 i0 (.int .i64 0) Try.underlying22 hi hz0 .i64 .i64 n n (by omega) (by omega) (by rw [hz2]; omega) (by omega)
  rw [hsz, Int.toNat_natCast, Nat.mul_one] at h
  exact h
theorem made_cell (w : World) (n x : Nat) (hx : x < n) : (w.alloc (.cells (madeCells #[.int .i64 0] n) 2)).cell? ⟨w.heap.size, x, none⟩ = some (.int .i64 0) := by
  rw [World.cell?_alloc_new]
  simp [madeCells, hx, Nat.mod_one]
/-- the parts that were laid so far -/
structure Lay (T S : Nat) (zs : Nat → Int) (n : Nat) (neg : Bool) (c : Array Sh) (pb k : Nat) (g : Nat → Int) (wr : World) : Prop where
  cells : ∀ x, x < n → wr.cell? ⟨pb, x, none⟩ = some (.int .i64 (g x)) ∧ wr.frozen? ⟨pb, x, none⟩ = false
  done : ∀ j, j < k → g (c[j]!.p).toNat = gets T S zs n neg c j
  obj : ∃ cur : Array Value, wr.heap[pb]? = some (.cells cur 2 (0, 0)) ∧ cur.size = n
theorem Lay.step {T S n : Nat} {zs : Nat → Int} {neg : Bool} {c : Array Sh} {pb k : Nat} {g : Nat → Int} {wr : World} (h : Lay T S zs n neg c pb k g wr) (hO : Ord T S zs n c) (hk : k < n) (hpb : pb < wr.heap.size) (o : Obj) (x : Nat) (hx : c[k]!.p = (x : Int)) (hxn : x < n) (v : Int) (hv : gets T S zs n neg c k = v) :
    Lay T S zs n neg c pb (k + 1) (fun y => if y = x then v else g y) ((wr.setCell ⟨pb, x, none⟩ (.int .i64 v)).alloc o) := by
  have hsz : pb < (wr.setCell ⟨pb, x, none⟩ (.int .i64 v)).heap.size := by simpa using hpb
  refine ⟨fun y hy => ?_, fun j hj => ?_, ?_⟩
  · have h1 := h.cells y hy
    rw [World.cell?_alloc_lt _ _ _ hsz]
    refine ⟨?_, ?_⟩
    · by_cases e : y = x
      · subst e
        rw [World.cell?_setCell_same _ _ _ h1.1, if_pos rfl]
      · rw [World.cell?_setCell_other _ _ _ _ (by intro h'; injection h' with _ h' _; omega), h1.1, if_neg e]
    · refine ((bal (Go.RowKit.Below.refl _ _) o).frozen (p := ⟨pb, y, none⟩) hsz).trans ?_
      rw [World.frozen?_setCell]
      exact h1.2
  · by_cases e : j = k
    · subst e
      rw [hx, Int.toNat_natCast, if_pos rfl, hv]
    · have hne := hO.inj (show j < k by omega) hk
      obtain ⟨i, hi, ei⟩ := hO.mem (show j < n by omega)
      have ep : c[j]!.p = (i : Int) := by rw [ei]; rfl
      have : ¬ (c[j]!.p).toNat = x := by omega
      rw [if_neg this]
      exact h.done j (by omega)
  · obtain ⟨cur, h1, h2⟩ := h.obj
    refine ⟨cur.setIfInBounds x (.int .i64 v), ?_, by simpa using h2⟩
    rw [Go.RowKit.Below.heap_alloc _ _ _ hsz]
    exact heap_setCell_same wr pb x cur 2 (.int .i64 v) h1
/-- what Split hands back -/
def SplitOut (T S : Nat) (zs : Nat → Int) (n : Nat) (neg : Bool) (w : World) (e : Ending) (w' : World) : Prop := ∃ (pb : Nat) (c : Array Sh) (g : Nat → Int), e = .returned (.tuple #[.slice (some ⟨pb, 0, none⟩) n n, .int .i64 0]) ∧ w.heap.size ≤ pb ∧ Ord T S zs n c ∧ Lay T S zs n neg c pb n g w' ∧ Go.RowKit.Below w.heap.size w w'
theorem left_q {T S n : Nat} {zs : Nat → Int} (hS : sumN zs n = S) (h0 : 0 < S) : ∀ i, i < n → qf T S zs i ≤ T ∧ (0 < T - cumQ T S zs n → qf T S zs i < T) := by
  intro i hi
  refine ⟨qf_T hS h0 hi, fun hl => ?_⟩
  have h1 : ∀ m, i < m → m ≤ n → qf T S zs i ≤ cumQ T S zs m := by
    intro m
    induction m with
    | zero => intro h; omega
    | succ m ih =>
      intro h h'
      simp only [cumQ]
      by_cases e : i = m
      · subst e; omega
      · have := ih (by omega) (by omega)
        omega
  have := h1 n hi (Nat.le_refl _)
  omega
set_option maxHeartbeats 4000000 in
set_option maxRecDepth 1000000 in
/-- Split where all is well -/
theorem split_ok (T S : Nat) (total : Int) (zs : Nat → Int) (b off n cap : Nat) (neg : Bool) (hneg : decide (total < 0) = neg) (hTt : total.natAbs = T) (hT : T ≤ 9223372036854775807) (hS : sumN zs n = S) (h0 : 0 < S) (hS63 : S ≤ 9223372036854775807) (hn : n ≤ 1000) (hn0 : 0 < n) (hz : Hid (∀ k, k < n → 0 ≤ zs k ∧ zs k ≤ 9223372036854775807)) (w : World) (hb : b < w.heap.size) (hc : Hid (∀ k, k < n → w.cell? ⟨b, off + k, none⟩ = some (.int .i64 (zs k)))) :
    Calls Try.prog 23 #[.int .i64 total, .slice (some ⟨b, off, none⟩) n cap] w fun e w' => SplitOut T S zs n neg w e w' := by
  have hsum : sumSpec zs n = ((S : Int), 0) := by
    have e1 := sumN_is n (fun k hk => (unhide hz k hk).1)
    rw [hS] at e1
    rw [sumSpec_fits (anyMin_of (fun i hi => by have := unhide hz i hi; omega)) (by omega) (by omega), ← e1]
  have C1 := hide (fun W => chk_yes total W (by omega))
  have C2 := hide (weigh_ok zs b off n cap hn hn0 hz w hc S (hide hsum) (by omega))
  have C3 := hide (fun W => size_any total W (by omega) (by omega))
  rw [hTt] at C3
  have C4 := hide (floor_any T S zs b off n cap hT hS h0 hS63 hn hz w hb hc)
  have R0 : Aside (RowK enc3 3 (mkW w n) w.heap.size 0 (mkA n 0 (shf T S zs))) := rowK (mkW_holds w n _) (by rw [mkW_size]; omega)
  have MK2 := run_mk2 n hn
  have C5 : Aside (∀ W, SWK enc3 3 (mkW w n) w.heap.size 0 (mkA n n (shf T S zs)) W → RowK enc3 3 W w.heap.size 0 (mkA n n (shf T S zs)) ∧ Calls Try.prog 46 #[.slice (some ⟨w.heap.size, 0, none⟩) n n, .func (.func 47) #[] #[]] W fun e w' => e = .returned (.tuple #[]) ∧ ∃ c : Array Sh, SWK enc3 3 W w.heap.size 0 c w' ∧ Ord T S zs n c) := by
    intro W hSW
    have RR : RowK enc3 3 W w.heap.size 0 (mkA n n (shf T S zs)) := rowK (hSW.holds R0.out.hblk R0.out.hH (by rw [mkA_size, mkA_size])) (hSW.lt R0.out.hblk)
    refine ⟨RR, ?_⟩
    have h := sort_any w.heap.size n _ W RR (by rw [mkA_size]; exact hn) (by rw [mkA_size]; exact ris_mk T S zs n)
    rw [mkA_size] at h
    refine h.mono ?_
    rintro e w' ⟨rfl, c, h1, h2, h3⟩
    exact ⟨rfl, c, h1, by rw [h2.1, mkA_size], h2, h3⟩
  obtain ⟨L, hL⟩ : ∃ L, T - cumQ T S zs n = L := ⟨_, rfl⟩
  have EL : Aside (T - cumQ T S zs n = L) := hL
  rw [hL] at C4
  have hQ : Aside (∀ i, i < n → qf T S zs i ≤ T ∧ (0 < L → qf T S zs i < T)) := (by rw [← hL]; exact left_q hS h0)
  clear hsum hTt hc hz hL
  go_enter Try.func23, Try.ntmps23
  go_wp2_with fail
  refine (unhide C1 _).mono ?_
  rintro e w0 ⟨rfl, hw⟩
  rw [hw]
  clear hw w0
  go_wp2_with fail
  refine (unhide C2).mono ?_
  rintro e w0 ⟨rfl, hw⟩
  rw [hw]
  clear hw w0
  go_wp2_with fail
  refine (unhide C3 _).mono ?_
  rintro e w0 ⟨rfl, hw⟩
  rw [hw]
  clear hw w0
  go_wp2_with fail
  refine (unhide C4).mono ?_
  rintro e w1 ⟨rfl, s1⟩
  have S1 : Aside _ := s1
  have C6 := hide (C5.out w1 s1)
  clear s1 C5
  go_wp2_with fail
  refine (unhide C6).2.mono ?_
  rintro e w2 ⟨rfl, c, s2, o2⟩
  have S2 : Aside (SWK enc3 3 w1 w.heap.size 0 c w2) := s2
  have O2 : Aside (Ord T S zs n c) := o2
  clear s2 o2
  have hcs : c.size = n := O2.out.size
  obtain ⟨pb, hpb⟩ : ∃ pb, w2.heap.size = pb := ⟨_, rfl⟩
  have hp1 : w1.heap.size ≤ pb := by rw [← hpb]; exact S2.out.le
  have S3 : Aside (SWK enc3 3 w1 w.heap.size 0 c (w2.alloc (.cells (madeCells #[.int .i64 0] n) 2))) := S2.out.alloc _
  have L3 : Aside (Lay T S zs n neg c pb 0 (fun _ => 0) (w2.alloc (.cells (madeCells #[.int .i64 0] n) 2))) := ⟨fun x hx => by rw [← hpb]; exact ⟨made_cell w2 n x hx, World.frozen?_alloc_new _ _ _ _⟩, fun j hj => by omega, ⟨_, by rw [← hpb]; exact heap_alloc_new _ _, by simp [madeCells]⟩⟩
  have hz3 : (w2.alloc (.cells (madeCells #[.int .i64 0] n) 2)).heap.size = pb + 1 := by rw [World.size_alloc, hpb]
  go_wp2_with fail
  generalize w2.alloc (.cells (madeCells #[.int .i64 0] n) 2) = w3 at S3 L3 hz3 ⊢
  clear S2 MK2
  go_loopg [43] n (fun kx si wr => ∃ (k : Nat) (g : Nat → Int), si = .int .i64 (k : Int) ∧ k ≤ n ∧ n - k ≤ kx ∧ pb < wr.heap.size ∧ Aside (SWK enc3 3 w1 w.heap.size 0 c wr) ∧ Aside (Lay T S zs n neg c pb k g wr))
  case atStart => exact ⟨0, _, rfl, by omega, by omega, by omega, S3, L3⟩
  case round =>
    clear S3 L3 hz3
    obtain ⟨k, g, rfl, hkn, hkx, hpw, S4, L4⟩ := hrel
    by_cases hlt : k < n
    · have hI : (k : Int) < (n : Int) := by omega
      have px : (0 : Int) ≤ (k : Int) := by omega
      have rx : IntKind.i64.wrap (k : Int) = (k : Int) := by rw [IntKind.wrap_i64]; omega
      obtain ⟨x, hxn, ex⟩ := O2.out.mem hlt
      obtain ⟨q, hq⟩ : ∃ q, qf T S zs x = q := ⟨_, rfl⟩
      obtain ⟨r, hr⟩ : ∃ r, rf T S zs x = r := ⟨_, rfl⟩
      have ex2 : c[k]! = ⟨(x : Int), (q : Int), r⟩ := by rw [ex]; unfold shf; rw [hq, hr]
      have hq63 := hQ.out x hxn
      rw [hq] at hq63
      have ld : (ld50 (.pointer (some ⟨w.heap.size, k * 3, none⟩))).run Try.prog wr = .ok (.agg #[.int .i64 (x : Int), .int .i64 (q : Int), .int .u64 (r : Int)]) wr := by
        have h := sw_ld S4.out (unhide C6).1 (by rw [hcs, mkA_size]) (x := k) (by omega)
        rw [ex2] at h
        exact h
      have st := st_new wr (x : Int) (q : Int) r
      have hA : ∀ o, (wr.alloc o).cell? ⟨pb, x, none⟩ = some (.int .i64 (g x)) := fun o => (World.cell?_alloc_lt _ _ _ hpw).trans (L4.out.cells x hxn).1
      have hF : ∀ o, (wr.alloc o).frozen? ⟨pb, x, none⟩ = false := fun o => ((bal (Go.RowKit.Below.refl _ _) o).frozen (p := ⟨pb, x, none⟩) hpw).trans (L4.out.cells x hxn).2
      have bx : (x : Int) < (n : Int) := by omega
      have px2 : (0 : Int) ≤ (x : Int) := by omega
      have GV : Aside (gets T S zs n neg c k = if neg then -((q : Int) + (if k < L then 1 else 0)) else (q : Int) + (if k < L then 1 else 0)) := (by unfold gets; rw [EL.out, ex2] : gets T S zs n neg c k = if neg then -((q : Int) + (if k < L then 1 else 0)) else (q : Int) + (if k < L then 1 else 0))
      have EXP : Aside (c[k]!.p = (x : Int)) := (by rw [ex2] : c[k]!.p = (x : Int))
      clear hq hr ex ex2
      cases neg
      · have hn1 : ¬ total < 0 := by simpa using hneg
        by_cases hkL : k < L
        · have hJ : (k : Int) < (L : Int) := by omega
          have hqT := hq63.2 (by omega)
          have GV2 : Aside (gets T S zs n false c k = (q : Int) + 1) := (by rw [GV.out]; simp [hkL] : gets T S zs n false c k = (q : Int) + 1)
          clear GV
          go_wp2
          go_roundg (n - (k + 1))
          case measure => omega
          case rel => exact ⟨k + 1, _, by go_num, by omega, Nat.le_refl _, by simp; omega, (S4.out.setCell_new pb x _ hp1).alloc _, L4.out.step O2.out hlt hpw _ x EXP.out hxn _ GV2.out⟩
        · have hJ : ¬ (k : Int) < (L : Int) := by omega
          have GV2 : Aside (gets T S zs n false c k = (q : Int)) := (by rw [GV.out]; simp [hkL] : gets T S zs n false c k = (q : Int))
          clear GV
          go_wp2
          go_roundg (n - (k + 1))
          case measure => omega
          case rel => exact ⟨k + 1, _, by go_num, by omega, Nat.le_refl _, by simp; omega, (S4.out.setCell_new pb x _ hp1).alloc _, L4.out.step O2.out hlt hpw _ x EXP.out hxn _ GV2.out⟩
      · have hn1 : total < 0 := by simpa using hneg
        by_cases hkL : k < L
        · have hJ : (k : Int) < (L : Int) := by omega
          have hqT := hq63.2 (by omega)
          have GV2 : Aside (gets T S zs n true c k = -((q : Int) + 1)) := (by rw [GV.out]; simp [hkL] : gets T S zs n true c k = -((q : Int) + 1))
          clear GV
          go_wp2
          go_roundg (n - (k + 1))
          case measure => omega
          case rel => exact ⟨k + 1, _, by go_num, by omega, Nat.le_refl _, by simp; omega, (S4.out.setCell_new pb x _ hp1).alloc _, L4.out.step O2.out hlt hpw _ x EXP.out hxn _ GV2.out⟩
        · have hJ : ¬ (k : Int) < (L : Int) := by omega
          have GV2 : Aside (gets T S zs n true c k = -(q : Int)) := (by rw [GV.out]; simp [hkL] : gets T S zs n true c k = -(q : Int))
          clear GV
          go_wp2
          go_roundg (n - (k + 1))
          case measure => omega
          case rel => exact ⟨k + 1, _, by go_num, by omega, Nat.le_refl _, by simp; omega, (S4.out.setCell_new pb x _ hp1).alloc _, L4.out.step O2.out hlt hpw _ x EXP.out hxn _ GV2.out⟩
    · have hkn' : k = n := by omega
      subst hkn'
      have hI : ¬ (k : Int) < (k : Int) := by omega
      go_wp2
      go_ret2
      have B1 : Go.RowKit.Below w.heap.size w (mkW w k) := bal (Go.RowKit.Below.refl _ _) _
      have B2 := sw_below S1.out (Nat.le_refl w.heap.size) B1.size
      have B3 := sw_below S4.out (Nat.le_refl w.heap.size) (Nat.le_trans B1.size B2.size)
      refine ⟨pb, c, g, rfl, Nat.le_trans (Nat.le_trans B1.size B2.size) hp1, O2.out, L4.out, (B1.trans B2).trans B3⟩
end Go.Proofs.Ytddpladmkmpoaaa
