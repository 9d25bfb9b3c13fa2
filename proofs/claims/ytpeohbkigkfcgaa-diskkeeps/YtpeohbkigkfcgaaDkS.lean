/- acts (10): one of the changing calls. -/
import Derived.Test.YtpeohbkigkfcgaaDkP
import Derived.Test.YtpeohbkigkfcgaaDkR
namespace Go.Proofs.Ytpeohbkigkfcgaa
open Go Go.Shelf Go.ChangeShapes Go.WideShapes Go.ChangeAt Go.RowKit Go.Maps Go.Sort
set_option linter.unusedVariables false
theorem info3 : (Try.prog.info? 3).map (fun i => (i.zero, i.size, i.bytes)) = some (some (.int .i64 0), 1, 8) := by kernel_rfl
/-- what a call of acts does -/
structure OpV where
  kind : Int
  nm : ByteArray
  to : ByteArray
  bs : List UInt8
  n : Int
  ks : List Int
def actK (o : OpV) (K : Dk) : Dk × Int :=
  if o.kind = 3 then chgK K (whyK (prS o.nm) K) (newA (prS o.nm) K)
  else if o.kind = 4 then chgK K (erA (prS o.nm) o.bs K) (appA (prS o.nm) o.bs K)
  else if o.kind = 5 then chgK K (erF (prS o.nm) K) (syncA (prS o.nm) K)
  else if o.kind = 6 then chgK K (erR (prS o.nm) (prS o.to) K) (renA (prS o.nm) (prS o.to) K)
  else if o.kind = 7 then chgK K (erF (prS o.nm) K) (delF (prS o.nm).data.toList K.A)
  else if o.kind = 12 then fuseK K o.n
  else if o.kind = 14 then (crashK o.ks K, 0)
  else (K, 0)
theorem chg_num {K : Dk} {er : Int} {A' : Fs} (h0 : 0 ≤ er) (h1 : er ≤ 34) : 0 ≤ (chgK K er A').2 ∧ (chgK K er A').2 ≤ 1000 := by
  unfold chgK
  split
  · simp
  · split
    · simp; omega
    · split <;> simp
theorem DiskOK.more {W : World} {d N N' : Nat} {K : Dk} {S : Nat → Prop} (h : DiskOK W d N K S) (hN : N ≤ N') : DiskOK W d N' K S := h.mono hN
theorem prS_size (s : ByteArray) : (prS s).size ≤ maxLen := by
  have := nameS_size (prS_name s)
  unfold maxLen
  omega
theorem erF_num (s : ByteArray) (K : Dk) : 0 ≤ erF s K ∧ erF s K ≤ 34 := by
  unfold erF
  split
  · omega
  · split <;> omega
theorem whyK_num (s : ByteArray) (K : Dk) : 0 ≤ whyK s K ∧ whyK s K ≤ 34 := by
  unfold whyK
  split
  · omega
  · split
    · omega
    · split <;> omega
theorem erA_num (s : ByteArray) (b : List UInt8) (K : Dk) : 0 ≤ erA s b K ∧ erA s b K ≤ 34 := by
  unfold erA
  split
  · omega
  · exact erF_num s K
theorem erR_num (s t : ByteArray) (K : Dk) : 0 ≤ erR s t K ∧ erR s t K ≤ 34 := by
  unfold erR
  split
  · omega
  · exact erF_num s K
theorem fuse_num (K : Dk) (x : Int) : 0 ≤ (fuseK K x).2 ∧ (fuseK K x).2 ≤ 1000 := by
  unfold fuseK
  split
  · simp
  · split <;> simp
theorem act_inv {o : OpV} {K : Dk} (h : Inv K) (hf : ∀ x, o.kind = 12 → canBe (-1) x = true → True) (hcr : o.kind = 14 → Inv (crashK o.ks K)) : Inv (actK o K).1 := by
  unfold actK
  split
  · exact h.create _
  · split
    · exact h.append _ _
    · split
      · exact h.sync _
      · split
        · exact h.rename _ _
        · split
          · exact h.remove _
          · split
            · unfold fuseK
              split
              · exact h
              · rename_i hc
                split
                · exact h
                · have hc : canBe (-1) o.n = true := by simpa using hc
                  simp only [canBe, Bool.and_eq_true, decide_eq_true_eq] at hc
                  exact ⟨h.ord, h.nm, h.sy, h.tot, h.cap1, hc.1, hc.2, h.many⟩
            · split
              · rename_i h14
                exact hcr h14
              · exact h
theorem tot_mapIdx : ∀ (A : Fs) (f : Nat → List UInt8 × Fl → List UInt8 × Fl), (∀ i, ∀ p ∈ A, (f i p).2.bs.length ≤ p.2.bs.length) → totF (A.mapIdx f) ≤ totF A
  | [], f, _ => by simp [totF]
  | a :: A, f, h => by
    rw [List.mapIdx_cons]
    have h1 := tot_mapIdx A (fun i => f (i + 1)) (fun i p hp => h (i + 1) p (by simp [hp]))
    have h2 := h 0 a (by simp)
    simp only [totF, List.map_cons, List.sum_cons] at h1 ⊢
    omega
theorem Inv.crash {K : Dk} (h : Inv K) (ks : List Int) : Inv (crashK ks K) := by
  have hmem : ∀ p ∈ cutTo ks K.A K.A.length, ∃ i q, q ∈ K.A ∧ p = (q.1, cutF ks i q.2) := by
    intro p hp
    obtain ⟨i, hi⟩ := List.mem_iff_getElem?.1 hp
    rw [cutTo_get] at hi
    obtain ⟨q, hq, rfl⟩ := Option.map_eq_some_iff.1 hi
    have hlt : i < K.A.length := by
      rw [List.getElem?_eq_some_iff] at hq
      exact hq.1
    exact ⟨i, q, List.mem_of_getElem? hq, by rw [if_pos hlt]⟩
  refine ⟨cutTo_ord ks _ h.ord, fun p hp => ?_, fun p hp => ?_, ?_, h.cap1, by simp [crashK], by simp [crashK], ?_⟩
  · obtain ⟨i, q, hq, rfl⟩ := hmem p hp
    exact h.nm q hq
  · obtain ⟨i, q, hq, rfl⟩ := hmem p hp
    show leftC ks i q.2 ≤ (cutF ks i q.2).bs.length
    rw [cut_len ks i (h.sy q hq)]
    exact Nat.le_refl _
  · have h1 : totF (cutTo ks K.A K.A.length) ≤ totF K.A := tot_mapIdx _ _ (fun i p hp => by
      split
      · show (p.2.bs.take _).length ≤ _
        rw [List.length_take]
        omega
      · exact Nat.le_refl _)
    have h2 := h.tot
    show (totF (cutTo ks K.A K.A.length) : Int) ≤ K.cap
    omega
  · show (cutTo ks K.A K.A.length).length ≤ 64
    rw [cutTo_len]
    exact h.many
/-- an operation as a value -/
def opV (o : OpV) (dk at0 : Int) (pb : Option Addr) (cb : Nat) (pk : Option Addr) (ck : Nat) (c1 : Int) (pf : Option Addr) (lf cf : Nat) (f1 : Int) (b1 : Bool) : Value := .agg #[.int .i64 dk, .int .i64 o.kind, .string o.nm, .string o.to, .slice pb o.bs.length cb, .int .i64 at0, .int .i64 o.n, .slice pk o.ks.length ck, .int .i64 c1, .slice pf lf cf, .int .i64 f1, .bool b1]
set_option maxRecDepth 100000 in
set_option maxHeartbeats 4000000 in
theorem acts3 {w : World} {d N : Nat} {K : Dk} {S : Nat → Prop} (h : DiskOK w d N K S) (hN : N < 800000) (hI : Inv K) (o : OpV) (dk at0 : Int) (pb : Option Addr) (cb : Nat) (pk : Option Addr) (ck : Nat) (c1 f1 : Int) (pf : Option Addr) (lf cf : Nat) (b1 : Bool) (h3 : o.kind = 3) (hnm : o.nm.size ≤ 9223372036854775806) (hto : o.to.size ≤ 9223372036854775806) :
    Calls Try.prog 10 #[.pointer (some ⟨d, 0, none⟩), opV o dk at0 pb cb pk ck c1 pf lf cf f1 b1] w fun e w' => e = .returned (.int .i64 (actK o K).2) ∧ ∃ S', DiskOK w' d (N + 64) (actK o K).1 S' ∧ Sep w w' S S' := by
  obtain ⟨kind, nm, to, bs, n, ks⟩ := o
  simp only at h3 hnm hto
  unfold opV
  dsimp only
  have HD := hide h
  have hfu := hI.fu1
  have HI := hide hI
  clear h hI
  subst h3
  obtain ⟨R, hR⟩ : ∃ R, R = chgK K (whyK (prS nm) K) (newA (prS nm) K) := ⟨_, rfl⟩
  have hA : actK ⟨3, nm, to, bs, n, ks⟩ K = R := by rw [hR]; unfold actK; simp
  rw [hA]
  clear hA
  have hnum : 0 ≤ R.2 ∧ R.2 ≤ 1000 := by rw [hR]; exact chg_num (whyK_num _ _).1 (whyK_num _ _).2
  have HR := hide hR
  clear hR
  obtain ⟨hn0, hn1⟩ := hnum
  obtain ⟨w1, hw1⟩ : ∃ w1, w1 = w.alloc (.cells #[.int .i64 dk, .int .i64 3, .string nm, .string to, .slice pb bs.length cb, .int .i64 at0, .int .i64 n, .slice pk ks.length ck, .int .i64 c1, .slice pf lf cf, .int .i64 f1, .bool b1] 33) := ⟨_, rfl⟩
  have hb1 : Below w.heap.size w w1 := by rw [hw1]; exact bal (Below.refl _ _) _
  have hz1 : w1.heap.size = w.heap.size + 1 := by rw [hw1]; simp
  have q1 : w1.cell? ⟨w.heap.size, 1, none⟩ = some (.int .i64 3) := by rw [hw1, World.cell?_alloc_mark]; rfl
  have q2 : w1.cell? ⟨w.heap.size, 2, none⟩ = some (.string nm) := by rw [hw1, World.cell?_alloc_mark]; rfl
  have q3 : w1.cell? ⟨w.heap.size, 3, none⟩ = some (.string to) := by rw [hw1, World.cell?_alloc_mark]; rfl
  have q6 : w1.cell? ⟨w.heap.size, 6, none⟩ = some (.int .i64 n) := by rw [hw1, World.cell?_alloc_mark]; rfl
  have H1 := hide hw1
  clear hw1
  go_enter Try.func10, Try.ntmps10
  go_wp2_with fail
  rw [← unhide H1]
  refine (pressed_ok nm hnm w1).mono ?_
  rintro e w2 ⟨rfl, hb2⟩
  have hz2 := hb2.size
  have t1 := keep1 hb2 (by omega) q1
  have t3 := keep1 hb2 (by omega) q3
  have t6 := keep1 hb2 (by omega) q6
  have B2 : Hid (Below w.heap.size w w2) := hb1.trans (hb2.mono (by omega))
  clear q1 q2 q3 q6 hb1 hb2
  go_wp2_with fail
  refine (pressed_ok to hto w2).mono ?_
  rintro e w3 ⟨rfl, hb3⟩
  have hz3 := hb3.size
  have u1 := keep1 hb3 (by omega) t1
  have u6 := keep1 hb3 (by omega) t6
  have B3 : Hid (Below w.heap.size w w3) := (unhide B2).trans (hb3.mono (by omega))
  clear t1 t3 t6 hb3 B2
  obtain ⟨mo, m0, es, hD⟩ := (unhide HD).below (unhide B3)
  have HD3 := hide hD
  clear hD
  go_wp2_with fail
  refine (create_ok (unhide HD3) (by omega) (by omega) (prS nm) (prS_size nm)).mono ?_
  rintro e w4 ⟨rfl, hres⟩
  rw [← unhide HR] at hres ⊢
  obtain ⟨S2, hr1, hr2⟩ := hres
  have HR1 := hide hr1; have HR2 := hide hr2
  clear hr1 hr2
  go_wp2_with fail
  refine (num_ok R.2 w4 hn0 hn1).mono ?_
  rintro e w5 ⟨rfl, hw⟩
  rw [hw]
  clear hw w5
  go_wp2_with fail
  go_ret
  exact ⟨rfl, S2, DiskOK.more (unhide HR1) (by omega), (Sep.of_below S (unhide B3)).trans (unhide HR2)⟩
set_option maxRecDepth 100000 in
set_option maxHeartbeats 4000000 in
theorem acts5 {w : World} {d N : Nat} {K : Dk} {S : Nat → Prop} (h : DiskOK w d N K S) (hN : N < 800000) (hI : Inv K) (o : OpV) (dk at0 : Int) (pb : Option Addr) (cb : Nat) (pk : Option Addr) (ck : Nat) (c1 f1 : Int) (pf : Option Addr) (lf cf : Nat) (b1 : Bool) (h3 : o.kind = 5) (hnm : o.nm.size ≤ 9223372036854775806) (hto : o.to.size ≤ 9223372036854775806) :
    Calls Try.prog 10 #[.pointer (some ⟨d, 0, none⟩), opV o dk at0 pb cb pk ck c1 pf lf cf f1 b1] w fun e w' => e = .returned (.int .i64 (actK o K).2) ∧ ∃ S', DiskOK w' d (N + 64) (actK o K).1 S' ∧ Sep w w' S S' := by
  obtain ⟨kind, nm, to, bs, n, ks⟩ := o
  simp only at h3 hnm hto
  unfold opV
  dsimp only
  have HD := hide h
  have hfu := hI.fu1
  have HI := hide hI
  clear h hI
  subst h3
  obtain ⟨R, hR⟩ : ∃ R, R = chgK K (erF (prS nm) K) (syncA (prS nm) K) := ⟨_, rfl⟩
  have hA : actK ⟨5, nm, to, bs, n, ks⟩ K = R := by rw [hR]; unfold actK; simp
  rw [hA]
  clear hA
  have hnum : 0 ≤ R.2 ∧ R.2 ≤ 1000 := by rw [hR]; exact chg_num (erF_num _ _).1 (erF_num _ _).2
  have HR := hide hR
  clear hR
  obtain ⟨hn0, hn1⟩ := hnum
  obtain ⟨w1, hw1⟩ : ∃ w1, w1 = w.alloc (.cells #[.int .i64 dk, .int .i64 5, .string nm, .string to, .slice pb bs.length cb, .int .i64 at0, .int .i64 n, .slice pk ks.length ck, .int .i64 c1, .slice pf lf cf, .int .i64 f1, .bool b1] 33) := ⟨_, rfl⟩
  have hb1 : Below w.heap.size w w1 := by rw [hw1]; exact bal (Below.refl _ _) _
  have hz1 : w1.heap.size = w.heap.size + 1 := by rw [hw1]; simp
  have q1 : w1.cell? ⟨w.heap.size, 1, none⟩ = some (.int .i64 5) := by rw [hw1, World.cell?_alloc_mark]; rfl
  have q2 : w1.cell? ⟨w.heap.size, 2, none⟩ = some (.string nm) := by rw [hw1, World.cell?_alloc_mark]; rfl
  have q3 : w1.cell? ⟨w.heap.size, 3, none⟩ = some (.string to) := by rw [hw1, World.cell?_alloc_mark]; rfl
  have q6 : w1.cell? ⟨w.heap.size, 6, none⟩ = some (.int .i64 n) := by rw [hw1, World.cell?_alloc_mark]; rfl
  have H1 := hide hw1
  clear hw1
  go_enter Try.func10, Try.ntmps10
  go_wp2_with fail
  rw [← unhide H1]
  refine (pressed_ok nm hnm w1).mono ?_
  rintro e w2 ⟨rfl, hb2⟩
  have hz2 := hb2.size
  have t1 := keep1 hb2 (by omega) q1
  have t3 := keep1 hb2 (by omega) q3
  have t6 := keep1 hb2 (by omega) q6
  have B2 : Hid (Below w.heap.size w w2) := hb1.trans (hb2.mono (by omega))
  clear q1 q2 q3 q6 hb1 hb2
  go_wp2_with fail
  refine (pressed_ok to hto w2).mono ?_
  rintro e w3 ⟨rfl, hb3⟩
  have hz3 := hb3.size
  have u1 := keep1 hb3 (by omega) t1
  have u6 := keep1 hb3 (by omega) t6
  have B3 : Hid (Below w.heap.size w w3) := (unhide B2).trans (hb3.mono (by omega))
  clear t1 t3 t6 hb3 B2
  obtain ⟨mo, m0, es, hD⟩ := (unhide HD).below (unhide B3)
  have HD3 := hide hD
  clear hD
  go_wp2_with fail
  refine (sync_ok (unhide HD3) (by omega) (by omega) (prS nm) (prS_size nm)).mono ?_
  rintro e w4 ⟨rfl, hres⟩
  rw [← unhide HR] at hres ⊢
  obtain ⟨S2, hr1, hr2⟩ := hres
  have HR1 := hide hr1; have HR2 := hide hr2
  clear hr1 hr2
  go_wp2_with fail
  refine (num_ok R.2 w4 hn0 hn1).mono ?_
  rintro e w5 ⟨rfl, hw⟩
  rw [hw]
  clear hw w5
  go_wp2_with fail
  go_ret
  exact ⟨rfl, S2, DiskOK.more (unhide HR1) (by omega), (Sep.of_below S (unhide B3)).trans (unhide HR2)⟩
set_option maxRecDepth 100000 in
set_option maxHeartbeats 4000000 in
theorem acts6 {w : World} {d N : Nat} {K : Dk} {S : Nat → Prop} (h : DiskOK w d N K S) (hN : N < 800000) (hI : Inv K) (o : OpV) (dk at0 : Int) (pb : Option Addr) (cb : Nat) (pk : Option Addr) (ck : Nat) (c1 f1 : Int) (pf : Option Addr) (lf cf : Nat) (b1 : Bool) (h3 : o.kind = 6) (hnm : o.nm.size ≤ 9223372036854775806) (hto : o.to.size ≤ 9223372036854775806) :
    Calls Try.prog 10 #[.pointer (some ⟨d, 0, none⟩), opV o dk at0 pb cb pk ck c1 pf lf cf f1 b1] w fun e w' => e = .returned (.int .i64 (actK o K).2) ∧ ∃ S', DiskOK w' d (N + 64) (actK o K).1 S' ∧ Sep w w' S S' := by
  obtain ⟨kind, nm, to, bs, n, ks⟩ := o
  simp only at h3 hnm hto
  unfold opV
  dsimp only
  have HD := hide h
  have hfu := hI.fu1
  have HI := hide hI
  clear h hI
  subst h3
  obtain ⟨R, hR⟩ : ∃ R, R = chgK K (erR (prS nm) (prS to) K) (renA (prS nm) (prS to) K) := ⟨_, rfl⟩
  have hA : actK ⟨6, nm, to, bs, n, ks⟩ K = R := by rw [hR]; unfold actK; simp
  rw [hA]
  clear hA
  have hnum : 0 ≤ R.2 ∧ R.2 ≤ 1000 := by rw [hR]; exact chg_num (erR_num _ _ _).1 (erR_num _ _ _).2
  have HR := hide hR
  clear hR
  obtain ⟨hn0, hn1⟩ := hnum
  obtain ⟨w1, hw1⟩ : ∃ w1, w1 = w.alloc (.cells #[.int .i64 dk, .int .i64 6, .string nm, .string to, .slice pb bs.length cb, .int .i64 at0, .int .i64 n, .slice pk ks.length ck, .int .i64 c1, .slice pf lf cf, .int .i64 f1, .bool b1] 33) := ⟨_, rfl⟩
  have hb1 : Below w.heap.size w w1 := by rw [hw1]; exact bal (Below.refl _ _) _
  have hz1 : w1.heap.size = w.heap.size + 1 := by rw [hw1]; simp
  have q1 : w1.cell? ⟨w.heap.size, 1, none⟩ = some (.int .i64 6) := by rw [hw1, World.cell?_alloc_mark]; rfl
  have q2 : w1.cell? ⟨w.heap.size, 2, none⟩ = some (.string nm) := by rw [hw1, World.cell?_alloc_mark]; rfl
  have q3 : w1.cell? ⟨w.heap.size, 3, none⟩ = some (.string to) := by rw [hw1, World.cell?_alloc_mark]; rfl
  have q6 : w1.cell? ⟨w.heap.size, 6, none⟩ = some (.int .i64 n) := by rw [hw1, World.cell?_alloc_mark]; rfl
  have H1 := hide hw1
  clear hw1
  go_enter Try.func10, Try.ntmps10
  go_wp2_with fail
  rw [← unhide H1]
  refine (pressed_ok nm hnm w1).mono ?_
  rintro e w2 ⟨rfl, hb2⟩
  have hz2 := hb2.size
  have t1 := keep1 hb2 (by omega) q1
  have t3 := keep1 hb2 (by omega) q3
  have t6 := keep1 hb2 (by omega) q6
  have B2 : Hid (Below w.heap.size w w2) := hb1.trans (hb2.mono (by omega))
  clear q1 q2 q3 q6 hb1 hb2
  go_wp2_with fail
  refine (pressed_ok to hto w2).mono ?_
  rintro e w3 ⟨rfl, hb3⟩
  have hz3 := hb3.size
  have u1 := keep1 hb3 (by omega) t1
  have u6 := keep1 hb3 (by omega) t6
  have B3 : Hid (Below w.heap.size w w3) := (unhide B2).trans (hb3.mono (by omega))
  clear t1 t3 t6 hb3 B2
  obtain ⟨mo, m0, es, hD⟩ := (unhide HD).below (unhide B3)
  have HD3 := hide hD
  clear hD
  go_wp2_with fail
  refine (rename_ok (unhide HD3) (by omega) (by omega) (prS nm) (prS to) (prS_size nm) (prS_size to)).mono ?_
  rintro e w4 ⟨rfl, hres⟩
  rw [← unhide HR] at hres ⊢
  obtain ⟨S2, hr1, hr2⟩ := hres
  have HR1 := hide hr1; have HR2 := hide hr2
  clear hr1 hr2
  go_wp2_with fail
  refine (num_ok R.2 w4 hn0 hn1).mono ?_
  rintro e w5 ⟨rfl, hw⟩
  rw [hw]
  clear hw w5
  go_wp2_with fail
  go_ret
  exact ⟨rfl, S2, DiskOK.more (unhide HR1) (by omega), (Sep.of_below S (unhide B3)).trans (unhide HR2)⟩
set_option maxRecDepth 100000 in
set_option maxHeartbeats 4000000 in
theorem acts7 {w : World} {d N : Nat} {K : Dk} {S : Nat → Prop} (h : DiskOK w d N K S) (hN : N < 800000) (hI : Inv K) (o : OpV) (dk at0 : Int) (pb : Option Addr) (cb : Nat) (pk : Option Addr) (ck : Nat) (c1 f1 : Int) (pf : Option Addr) (lf cf : Nat) (b1 : Bool) (h3 : o.kind = 7) (hnm : o.nm.size ≤ 9223372036854775806) (hto : o.to.size ≤ 9223372036854775806) :
    Calls Try.prog 10 #[.pointer (some ⟨d, 0, none⟩), opV o dk at0 pb cb pk ck c1 pf lf cf f1 b1] w fun e w' => e = .returned (.int .i64 (actK o K).2) ∧ ∃ S', DiskOK w' d (N + 64) (actK o K).1 S' ∧ Sep w w' S S' := by
  obtain ⟨kind, nm, to, bs, n, ks⟩ := o
  simp only at h3 hnm hto
  unfold opV
  dsimp only
  have HD := hide h
  have hfu := hI.fu1
  have HI := hide hI
  clear h hI
  subst h3
  obtain ⟨R, hR⟩ : ∃ R, R = chgK K (erF (prS nm) K) (delF (prS nm).data.toList K.A) := ⟨_, rfl⟩
  have hA : actK ⟨7, nm, to, bs, n, ks⟩ K = R := by rw [hR]; unfold actK; simp
  rw [hA]
  clear hA
  have hnum : 0 ≤ R.2 ∧ R.2 ≤ 1000 := by rw [hR]; exact chg_num (erF_num _ _).1 (erF_num _ _).2
  have HR := hide hR
  clear hR
  obtain ⟨hn0, hn1⟩ := hnum
  obtain ⟨w1, hw1⟩ : ∃ w1, w1 = w.alloc (.cells #[.int .i64 dk, .int .i64 7, .string nm, .string to, .slice pb bs.length cb, .int .i64 at0, .int .i64 n, .slice pk ks.length ck, .int .i64 c1, .slice pf lf cf, .int .i64 f1, .bool b1] 33) := ⟨_, rfl⟩
  have hb1 : Below w.heap.size w w1 := by rw [hw1]; exact bal (Below.refl _ _) _
  have hz1 : w1.heap.size = w.heap.size + 1 := by rw [hw1]; simp
  have q1 : w1.cell? ⟨w.heap.size, 1, none⟩ = some (.int .i64 7) := by rw [hw1, World.cell?_alloc_mark]; rfl
  have q2 : w1.cell? ⟨w.heap.size, 2, none⟩ = some (.string nm) := by rw [hw1, World.cell?_alloc_mark]; rfl
  have q3 : w1.cell? ⟨w.heap.size, 3, none⟩ = some (.string to) := by rw [hw1, World.cell?_alloc_mark]; rfl
  have q6 : w1.cell? ⟨w.heap.size, 6, none⟩ = some (.int .i64 n) := by rw [hw1, World.cell?_alloc_mark]; rfl
  have H1 := hide hw1
  clear hw1
  go_enter Try.func10, Try.ntmps10
  go_wp2_with fail
  rw [← unhide H1]
  refine (pressed_ok nm hnm w1).mono ?_
  rintro e w2 ⟨rfl, hb2⟩
  have hz2 := hb2.size
  have t1 := keep1 hb2 (by omega) q1
  have t3 := keep1 hb2 (by omega) q3
  have t6 := keep1 hb2 (by omega) q6
  have B2 : Hid (Below w.heap.size w w2) := hb1.trans (hb2.mono (by omega))
  clear q1 q2 q3 q6 hb1 hb2
  go_wp2_with fail
  refine (pressed_ok to hto w2).mono ?_
  rintro e w3 ⟨rfl, hb3⟩
  have hz3 := hb3.size
  have u1 := keep1 hb3 (by omega) t1
  have u6 := keep1 hb3 (by omega) t6
  have B3 : Hid (Below w.heap.size w w3) := (unhide B2).trans (hb3.mono (by omega))
  clear t1 t3 t6 hb3 B2
  obtain ⟨mo, m0, es, hD⟩ := (unhide HD).below (unhide B3)
  have HD3 := hide hD
  clear hD
  go_wp2_with fail
  refine (remove_ok (unhide HD3) (by omega) (by omega) (prS nm) (prS_size nm)).mono ?_
  rintro e w4 ⟨rfl, hres⟩
  rw [← unhide HR] at hres ⊢
  obtain ⟨S2, hr1, hr2⟩ := hres
  have HR1 := hide hr1; have HR2 := hide hr2
  clear hr1 hr2
  go_wp2_with fail
  refine (num_ok R.2 w4 hn0 hn1).mono ?_
  rintro e w5 ⟨rfl, hw⟩
  rw [hw]
  clear hw w5
  go_wp2_with fail
  go_ret
  exact ⟨rfl, S2, DiskOK.more (unhide HR1) (by omega), (Sep.of_below S (unhide B3)).trans (unhide HR2)⟩
set_option maxRecDepth 100000 in
set_option maxHeartbeats 4000000 in
theorem acts12 {w : World} {d N : Nat} {K : Dk} {S : Nat → Prop} (h : DiskOK w d N K S) (hN : N < 800000) (hI : Inv K) (o : OpV) (dk at0 : Int) (pb : Option Addr) (cb : Nat) (pk : Option Addr) (ck : Nat) (c1 f1 : Int) (pf : Option Addr) (lf cf : Nat) (b1 : Bool) (h3 : o.kind = 12) (hnm : o.nm.size ≤ 9223372036854775806) (hto : o.to.size ≤ 9223372036854775806) :
    Calls Try.prog 10 #[.pointer (some ⟨d, 0, none⟩), opV o dk at0 pb cb pk ck c1 pf lf cf f1 b1] w fun e w' => e = .returned (.int .i64 (actK o K).2) ∧ ∃ S', DiskOK w' d (N + 64) (actK o K).1 S' ∧ Sep w w' S S' := by
  obtain ⟨kind, nm, to, bs, n, ks⟩ := o
  simp only at h3 hnm hto
  unfold opV
  dsimp only
  have HD := hide h
  have hfu := hI.fu1
  have HI := hide hI
  clear h hI
  subst h3
  obtain ⟨R, hR⟩ : ∃ R, R = fuseK K n := ⟨_, rfl⟩
  have hA : actK ⟨12, nm, to, bs, n, ks⟩ K = R := by rw [hR]; unfold actK; simp
  rw [hA]
  clear hA
  have hnum : 0 ≤ R.2 ∧ R.2 ≤ 1000 := by rw [hR]; exact fuse_num _ _
  have HR := hide hR
  clear hR
  obtain ⟨hn0, hn1⟩ := hnum
  obtain ⟨w1, hw1⟩ : ∃ w1, w1 = w.alloc (.cells #[.int .i64 dk, .int .i64 12, .string nm, .string to, .slice pb bs.length cb, .int .i64 at0, .int .i64 n, .slice pk ks.length ck, .int .i64 c1, .slice pf lf cf, .int .i64 f1, .bool b1] 33) := ⟨_, rfl⟩
  have hb1 : Below w.heap.size w w1 := by rw [hw1]; exact bal (Below.refl _ _) _
  have hz1 : w1.heap.size = w.heap.size + 1 := by rw [hw1]; simp
  have q1 : w1.cell? ⟨w.heap.size, 1, none⟩ = some (.int .i64 12) := by rw [hw1, World.cell?_alloc_mark]; rfl
  have q2 : w1.cell? ⟨w.heap.size, 2, none⟩ = some (.string nm) := by rw [hw1, World.cell?_alloc_mark]; rfl
  have q3 : w1.cell? ⟨w.heap.size, 3, none⟩ = some (.string to) := by rw [hw1, World.cell?_alloc_mark]; rfl
  have q6 : w1.cell? ⟨w.heap.size, 6, none⟩ = some (.int .i64 n) := by rw [hw1, World.cell?_alloc_mark]; rfl
  have H1 := hide hw1
  clear hw1
  go_enter Try.func10, Try.ntmps10
  go_wp2_with fail
  rw [← unhide H1]
  refine (pressed_ok nm hnm w1).mono ?_
  rintro e w2 ⟨rfl, hb2⟩
  have hz2 := hb2.size
  have t1 := keep1 hb2 (by omega) q1
  have t3 := keep1 hb2 (by omega) q3
  have t6 := keep1 hb2 (by omega) q6
  have B2 : Hid (Below w.heap.size w w2) := hb1.trans (hb2.mono (by omega))
  clear q1 q2 q3 q6 hb1 hb2
  go_wp2_with fail
  refine (pressed_ok to hto w2).mono ?_
  rintro e w3 ⟨rfl, hb3⟩
  have hz3 := hb3.size
  have u1 := keep1 hb3 (by omega) t1
  have u6 := keep1 hb3 (by omega) t6
  have B3 : Hid (Below w.heap.size w w3) := (unhide B2).trans (hb3.mono (by omega))
  clear t1 t3 t6 hb3 B2
  obtain ⟨mo, m0, es, hD⟩ := (unhide HD).below (unhide B3)
  have HD3 := hide hD
  clear hD
  go_wp2_with fail
  refine (fuse_ok (unhide HD3) n).mono ?_
  rintro e w4 ⟨rfl, hres⟩
  rw [← unhide HR] at hres ⊢
  obtain ⟨hr1, hr2⟩ := hres
  have HR1 := hide hr1; have HR2 := hide hr2
  clear hr1 hr2
  go_wp2_with fail
  refine (num_ok R.2 w4 hn0 hn1).mono ?_
  rintro e w5 ⟨rfl, hw⟩
  rw [hw]
  clear hw w5
  go_wp2_with fail
  go_ret
  exact ⟨rfl, S, DiskOK.more (unhide HR1) (by omega), (Sep.of_below S (unhide B3)).trans (unhide HR2)⟩
end Go.Proofs.Ytpeohbkigkfcgaa
