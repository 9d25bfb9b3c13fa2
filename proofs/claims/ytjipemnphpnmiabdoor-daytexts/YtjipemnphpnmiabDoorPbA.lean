import Derived.Test.YtjipemnphpnmiabDoorPaA
namespace Go.Proofs.YtjipemnphpnmiabDoor
open Go.ChangeShapes Go.WideShapes Go.ChangeAt Go.RowKit
set_option linter.unusedVariables false
/-- the number of a text, 0 where it is none -/
def dv (T : ByteArray) : Nat := (dgo 0 T.data.toList).getD 0
theorem ddigB (T : ByteArray) (w : World) (hs : T.size ≤ 4) : Calls Tryd.prog 29 #[.string T] w fun e w' => e = .returned (.int .i64 (dv T : Nat)) ∧ w' = w := by
  have h := ddig T.data.toList w (by rw [Array.length_toList]; exact hs)
  exact h
set_option maxHeartbeats 2000000 in
theorem dparse_go (S S1 S2 S3 : ByteArray) (hs : S.size = 10) (h4 : (S[4]'(by omega)).toNat = 45) (h7 : (S[7]'(by omega)).toNat = 45) (z1 : S1.size ≤ 4) (z2 : S2.size ≤ 4) (z3 : S3.size ≤ 4) (n e : Int) (w : World)
    (s1 : ∀ W, (Instr.sliceAt 9 (.string S) none (some (.int .i64 4)) none).run Tryd.prog W = .ok (.string S1) W)
    (s2 : ∀ W, (Instr.sliceAt 9 (.string S) (some (.int .i64 5)) (some (.int .i64 7)) none).run Tryd.prog W = .ok (.string S2) W)
    (s3 : ∀ W, (Instr.sliceAt 9 (.string S) (some (.int .i64 8)) none none).run Tryd.prog W = .ok (.string S3) W)
    (A4 : Hid (∀ W, Below w.heap.size w W → Calls Tryd.prog 23 #[.agg #[.int .i64 (dv S1 : Nat), .int .i64 (dv S2 : Nat), .int .i64 (dv S3 : Nat)]] W fun r w' => r = .returned (.tuple #[.int .i64 n, .int .i64 e]) ∧ Below W.heap.size W w')) :
    Calls Tryd.prog 18 #[.string S] w fun r w' => r = .returned (.tuple #[.int .i64 n, .int .i64 e]) ∧ Below w.heap.size w w' := by
  go_enter Tryd.func18, Tryd.ntmps18
  go_wp2
  go_region_held3 (fun w' => True) (trivial) (first | (go_at_call 29; refine (ddigB _ _ (by assumption)).mono ?_; rintro e w1 ⟨rfl, hw⟩; rw [hw]; clear hw) | (go_at_call 23; refine (unhide A4 _ (Below.refl _ _).drew).mono ?_; rintro e w2 ⟨rfl, hb2⟩; have C2 := hide ((Below.refl w.heap.size w).drew.trans hb2); clear hb2))
  all_goals
    go_wp2
    go_ret2
    exact ⟨rfl, unhide C2⟩
theorem run_slice_string_lh {P : Program} (w : World) (t : TypeId) (s : ByteArray) (ht : P.underlying t = some .string) (kl kh : IntKind) (l h : Int) (h0 : 0 ≤ l) (h1 : l ≤ h) (h2 : h ≤ s.size) :
    (Instr.slice t (.string s) (some (.int kl l)) (some (.int kh h)) none).run P w = .ok (.string (s.extract l.toNat h.toNat)) w := by
  have hh : l ≤ ((h.toNat : Nat) : Int) := by omega
  simp [Instr.slice, run_underlying ht, Instr.sliceBounds, run_sliceBound, *, (by omega : 0 ≤ h)]
  try rw [run_sliceBound _ _ _ _ _ h0 hh]
  try rfl
theorem sz_ext (S : ByteArray) (a b : Nat) (hs : S.size = 10) (h : a ≤ b) (hb : b ≤ 10) : (S.extract a b).size = b - a := by
  rw [ByteArray.size_extract, hs]
  omega
/-- Parse of a text of ten bytes with its two signs -/
theorem dparse_all (S : ByteArray) (hs : S.size = 10) (h4 : (S[4]'(by omega)).toNat = 45) (h7 : (S[7]'(by omega)).toNat = 45) (n e : Int) (w : World)
    (A4 : ∀ W, Below w.heap.size w W → Calls Tryd.prog 23 #[.agg #[.int .i64 (dv (S.extract 0 4) : Nat), .int .i64 (dv (S.extract 5 7) : Nat), .int .i64 (dv (S.extract 8 10) : Nat)]] W fun r w' => r = .returned (.tuple #[.int .i64 n, .int .i64 e]) ∧ Below W.heap.size W w') :
    Calls Tryd.prog 18 #[.string S] w fun r w' => r = .returned (.tuple #[.int .i64 n, .int .i64 e]) ∧ Below w.heap.size w w' := by
  refine dparse_go S (S.extract 0 4) (S.extract 5 7) (S.extract 8 10) hs h4 h7 (by rw [sz_ext S 0 4 hs (by omega) (by omega)]; omega) (by rw [sz_ext S 5 7 hs (by omega) (by omega)]; omega) (by rw [sz_ext S 8 10 hs (by omega) (by omega)]; omega) n e w (fun W => ?_) (fun W => ?_) (fun W => ?_) A4
  · rw [run_sliceAt_string W 9 _ _ _ _ Tryd.underlying9, run_slice_string_h W 9 _ Tryd.underlying9 .i64 4 (by omega) (by rw [hs]; omega)]
    rfl
  · rw [run_sliceAt_string W 9 _ _ _ _ Tryd.underlying9, run_slice_string_lh W 9 _ Tryd.underlying9 .i64 .i64 5 7 (by omega) (by omega) (by rw [hs]; omega)]
    rfl
  · rw [run_sliceAt_string W 9 _ _ _ _ Tryd.underlying9, run_slice_string_l W 9 _ Tryd.underlying9 .i64 8 (by omega) (by rw [hs]; omega), hs]
    rfl
theorem ch_nat (c : Nat) (h : c < 10) : (ch c).toNat = 48 + c := by
  unfold ch
  rw [UInt8.toNat_ofNat']
  omega
theorem dgo_ch {acc c : Nat} {xs : List UInt8} (h : c < 10) : dgo acc (ch c :: xs) = dgo (acc * 10 + c) xs := by
  have e := ch_nat c h
  rw [dgo_yes (by omega), e, show 48 + c - 48 = c by omega]
theorem dgo_p4 (y : Nat) (h : y < 10000) : dgo 0 (p4 y) = some y := by
  unfold p4
  rw [dgo_ch (by omega), dgo_ch (by omega), dgo_ch (by omega), dgo_ch (by omega), dgo]
  congr 1
  omega
theorem dgo_p2 (y : Nat) (h : y < 100) : dgo 0 (p2 y) = some y := by
  unfold p2
  rw [dgo_ch (by omega), dgo_ch (by omega), dgo]
  congr 1
  omega
/-- the text of a day reads as it -/
theorem dparse_tx (y m d n : Nat) (w : World) (hM : Mon w) (h : Dat y m d n) :
    Calls Tryd.prog 18 #[.string ⟨(tx y m d).toArray⟩] w fun r w' => r = .returned (.tuple #[.int .i64 n, .int .i64 0]) ∧ Below w.heap.size w w' := by
  have h2 := h.y2
  have h4 := h.m2
  have h5 : d ≤ 31 := Nat.le_trans h.d2 (dm_hi _ _)
  have e1 : dv ((⟨(tx y m d).toArray⟩ : ByteArray).extract 0 4) = y := by
    have : ((⟨(tx y m d).toArray⟩ : ByteArray).extract 0 4).data.toList = p4 y := by
      rw [ByteArray.data_extract]
      rfl
    unfold dv
    rw [this, dgo_p4 y (by omega)]
    rfl
  have e2 : dv ((⟨(tx y m d).toArray⟩ : ByteArray).extract 5 7) = m := by
    have : ((⟨(tx y m d).toArray⟩ : ByteArray).extract 5 7).data.toList = p2 m := by
      rw [ByteArray.data_extract]
      rfl
    unfold dv
    rw [this, dgo_p2 m (by omega)]
    rfl
  have e3 : dv ((⟨(tx y m d).toArray⟩ : ByteArray).extract 8 10) = d := by
    have : ((⟨(tx y m d).toArray⟩ : ByteArray).extract 8 10).data.toList = p2 d := by
      rw [ByteArray.data_extract]
      rfl
    unfold dv
    rw [this, dgo_p2 d (by omega)]
    rfl
  refine dparse_all ⟨(tx y m d).toArray⟩ rfl rfl rfl n 0 w (fun W hW => ?_)
  rw [e1, e2, e3]
  exact dfrom_ok y m d n W (hM.below hW) h
end Go.Proofs.YtjipemnphpnmiabDoor
