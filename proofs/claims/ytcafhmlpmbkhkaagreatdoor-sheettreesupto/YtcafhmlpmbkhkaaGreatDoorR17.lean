import Derived.Test.YtcafhmlpmbkhkaaGreatDoorR16
import Derived.Maps.Own
import Derived.Test.YtcafhmlpmbkhkaaGreatDoorW09
namespace Go.Proofs.YtcafhmlpmbkhkaaGreatDoor
open Go Go.Shelf Go.ChangeShapes Go.WideShapes Go.ChangeAt Go.RowKit Go.Maps
set_option linter.unusedVariables false
set_option linter.unusedSimpArgs false
theorem und171 : Tryz.prog.underlying 171 = some (.map 9 2) := Tryz.underlying171
theorem und2 : Tryz.prog.underlying 2 = some (.int .i64) := Tryz.underlying2
def datO (o : Option Int) (zd : DataW Unit) : DataW Unit := o.elim zd fun a => .lit (.int .i64 a)
def Rm (W : World) (b n : Nat) (F : ByteArray → Option Int) : Prop :=
  ∃ D : DataW Unit, W.ownsMap Tryz.prog 9 (plainElem Tryz.prog 2) b n D ∧ IsMap D ∧ (∀ s zd, D.atKey (litS s) zd = datO (F s) zd) ∧ ∀ s a, F s = some a → fits64 a
def updO (F : ByteArray → Option Int) (s : ByteArray) (a : Int) (t : ByteArray) : Option Int := if t = s then some a else F t
theorem wf64 (z : Int) : (Lit.int .i64 z).wf = true ↔ fits64 z := by
  unfold fits64
  simp [Lit.wf, IntKind.min, IntKind.max, IntKind.signed, IntKind.bits]
theorem Rm.made (W : World) : Rm (W.alloc (.map #[] 0)) W.heap.size 0 (fun _ => none) :=
  ⟨.map [], World.ownsMap_made W _ _ _, isMap_empty, (fun s zd => rfl), fun s a h => by cases h⟩
theorem Rm.lt {W : World} {b n : Nat} {F : ByteArray → Option Int} (h : Rm W b n F) : b < W.heap.size := by
  obtain ⟨D, h, _⟩ := h
  exact h.lt
theorem Rm.kept {W W' : World} {b n : Nat} {F : ByteArray → Option Int} (h : Rm W b n F) {row : Option Nat} (hg : W.grownBy W' row) (hne : some b ≠ row) : Rm W' b n F := by
  obtain ⟨D, h1, h2⟩ := h
  exact ⟨D, h1.kept hg hne, h2⟩
theorem Rm.below {W W' : World} {b n : Nat} {F : ByteArray → Option Int} (h : Rm W b n F) (hb : Below W.heap.size W W') : Rm W' b n F := h.kept (grown_of hb) (by simp)
set_option maxRecDepth 100000 in
theorem Rm.get {W : World} {b n : Nat} {F : ByteArray → Option Int} (h : Rm W b n F) (s : ByteArray) (hs : s.size ≤ maxLen) : (Instr.lookup 171 (.map (some b)) (.string s) false).run Tryz.prog W = .ok (.int .i64 ((F s).getD 0)) W := by
  obtain ⟨D, hm, hD, hF, _⟩ := h
  obtain ⟨c, hr, hat, hw⟩ := hm.lookup_int keyed9 und171 und2 (Tryz.zeroValue2 W) (keyS_of hs)
  rw [hr]
  rw [hF s] at hat
  cases hv : F s with
  | none =>
    rw [hv] at hat
    injection hat with hat
    injection hat with _ hat
    rw [← hat]
    rfl
  | some a =>
    rw [hv] at hat
    injection hat with hat
    injection hat with _ hat
    rw [← hat]
    rfl
set_option maxRecDepth 100000 in
theorem Rm.find {W : World} {b n : Nat} {F : ByteArray → Option Int} (h : Rm W b n F) (s : ByteArray) (hs : s.size ≤ maxLen) : (Instr.lookup 171 (.map (some b)) (.string s) true).run Tryz.prog W = .ok (.tuple #[.int .i64 ((F s).getD 0), .bool (F s).isSome]) W := by
  obtain ⟨D, hm, hD, hF, _⟩ := h
  obtain ⟨es, clock, hb, FF, hn, rfl⟩ := hm
  rcases fit_look true keyed9 und171 (Tryz.zeroValue2 W) hb FF (keyS_of hs) with ⟨hr, _, hat⟩ | ⟨e0, y, _, _, hr, hR, hat, _⟩
  · have e : F s = none := by
      have := hat .nil
      rw [hF s] at this
      cases hv : F s with
      | none => rfl
      | some a => rw [hv] at this; cases this
    rw [hr, e]
    rfl
  · obtain ⟨a, ea, ey, _⟩ := plainElem_int_inv und2 hR
    have e : F s = some a := by
      have := hat .nil
      rw [hF s, ey] at this
      cases hv : F s with
      | none => rw [hv] at this; cases this
      | some c =>
        rw [hv] at this
        injection this with this
        injection this with _ this
        rw [this]
    rw [hr, e, ea]
    rfl
theorem Rm.put {W : World} {b n : Nat} {F : ByteArray → Option Int} (h : Rm W b n F) (s : ByteArray) (hs : s.size ≤ maxLen) (hn : n < maxLen) (a : Int) (ha : fits64 a) :
    ∃ W', (Instr.mapUpdate 171 (.map (some b)) (.string s) (.int .i64 a)).run Tryz.prog W = .ok () W' ∧ Rm W' b (n + 1) (updO F s a) ∧ W.grownBy W' (some b) := by
  obtain ⟨D, hm, hD, hF, hf⟩ := h
  obtain ⟨W', hr, h2, hg⟩ := hm.update keyed9 und171 hn (keyS_of hs) (plainElem_int und2 ((wf64 a).2 ha))
  refine ⟨W', hr, ⟨_, h2, hD.put _ _, fun t zd => ?_, fun t c hc => ?_⟩, hg⟩
  · by_cases e : t = s
    · subst e
      rw [atKey_put_same hD (keyed9.key (keyS_of hs))]
      unfold updO
      rw [if_pos rfl]
      rfl
    · rw [atKey_put_other (fun e2 => e (litS_inj e2)), hF t]
      unfold updO
      rw [if_neg e]
  · unfold updO at hc
    split at hc
    · cases hc; exact ha
    · exact hf t c hc
end Go.Proofs.YtcafhmlpmbkhkaaGreatDoor
namespace Go.Proofs.YtcafhmlpmbkhkaaGreatDoor
open Go Go.Shelf Go.ChangeShapes Go.WideShapes Go.ChangeAt Go.RowKit Go.Maps
set_option linter.unusedVariables false
structure Bv where
  acc : ByteArray
  own : Int
  rol : Int
def Bv.vals (x : Bv) : List Value := [.string x.acc, .int .i64 x.own, .int .i64 x.rol]
def kV : Kd Bv := ⟨Bv.vals, 3, 67, 72, 32⟩
theorem kV_ok : KdOK kV := kd_ok (fun _ => rfl) (by decide) (fun x u hu => by simp [kV, Bv.vals] at hu; rcases hu with rfl | rfl | rfl <;> rfl) Tryz.underlying67 (z := .agg #[.string ⟨#[]⟩, .int .i64 0, .int .i64 0]) (by kernel_rfl) rfl (by decide)
def ldV (x : Value) : Sem Value := Instr.loadAt 72 x
theorem ldV_is (x : Value) : Instr.loadAt 72 x = ldV x := rfl
theorem sizV : (Tryz.prog.info? 72).map (·.size) = some 3 := by kernel_rfl
def cvV (x : Bv) : Value := .agg #[.string x.acc, .int .i64 x.own, .int .i64 x.rol]
theorem run_ldV {w : World} {b o : Nat} {x : Bv} (h : w.rangeAt b o x.vals) : (ldV (.pointer (some ⟨b, o, none⟩))).run Tryz.prog w = .ok (cvV x) w :=
  run_loadAt_mid (P := Tryz.prog) w b o 72 x.vals _ h Tryz.underlying72 rfl sizV
def obV (x : Bv) : Obj := .cells #[.string x.acc, .int .i64 x.own, .int .i64 x.rol] 72
theorem Lies.ldV {W : World} {p : Option Addr} {L : List Bv} (h : Lies kV W p L) {k : Nat} (hk : k < L.length) : ∃ b o, p = some ⟨b, o, none⟩ ∧ b < W.heap.size ∧ (ldV (.pointer (some ⟨b, o + k * 3, none⟩))).run Tryz.prog W = .ok (cvV L[k]) W := by
  obtain ⟨b, o, e, hb, hr⟩ := h.2 k hk
  exact ⟨b, o, e, hb, run_ldV hr⟩
end Go.Proofs.YtcafhmlpmbkhkaaGreatDoor
namespace Go.Proofs.YtcafhmlpmbkhkaaGreatDoor
open Go Go.Shelf Go.ChangeShapes Go.WideShapes Go.ChangeAt Go.RowKit Go.Maps
set_option linter.unusedVariables false
set_option linter.unusedSimpArgs false
attribute [local go_sem ↓] ldV_is
structure BvOk (x : Bv) : Prop where
  acc : x.acc.size ≤ 1048576
  own : fits64 x.own
  rol : fits64 x.rol
def rolO (B : List Bv) (s : ByteArray) : Option Int := (B.find? fun x => decide (x.acc = s)).map (·.rol)
theorem rolO_snoc {B : List Bv} {x : Bv} (h : rolO B x.acc = none) : rolO (B ++ [x]) = updO (rolO B) x.acc x.rol := by
  funext s
  unfold rolO updO
  rw [List.find?_append]
  by_cases e : s = x.acc
  · subst e
    rw [if_pos rfl]
    unfold rolO at h
    rw [Option.map_eq_none_iff] at h
    rw [h]
    simp
  · rw [if_neg e]
    have e2 : ¬ x.acc = s := fun q => e q.symm
    cases hf : B.find? (fun x => decide (x.acc = s)) with
    | some y => simp [hf]
    | none => simp [hf, e2]
def balE (L : List Ch.Ac) (P : List Bv) (x : Bv) : Int := if (Ch.fnd L x.acc.data.toList).isSome = false then 61 else if (rolO P x.acc).isSome = true then 70 else if x.rol = -9223372036854775808 then 10 else 0
def rolE (L : List Ch.Ac) : List Bv → List Bv → Int
  | P, [] => 0
  | P, x :: R => if balE L P x = 0 then rolE L (P ++ [x]) R else balE L P x
def RolOut (w : World) (L : List Ch.Ac) (B : List Bv) (e : Ending) (w' : World) : Prop :=
  ((rolE L [] B = 0 ∧ ∃ mb, e = .returned (.tuple #[.map (some mb), .int .i64 0]) ∧ Rm w' mb B.length (rolO B) ∧ w.heap.size ≤ mb) ∨ (rolE L [] B ≠ 0 ∧ e = .returned (.tuple #[.map none, .int .i64 (rolE L [] B)]))) ∧ Below w.heap.size w w'
theorem v_cells {W : World} {b : Nat} {x : Bv} (h : W.heap[b]? = some (obV x)) : W.cell? ⟨b, 0, none⟩ = some (.string x.acc) ∧ W.cell? ⟨b, 2, none⟩ = some (.int .i64 x.rol) := by
  unfold obV at h
  refine ⟨?_, ?_⟩ <;> (rw [cell_at h]; rfl)
structure RoAt (w : World) (L : List Ch.Ac) (B : List Bv) (mb k : Nat) (W : World) : Prop where
  rm : Rm W mb k (rolO (B.take k))
  bel : Below w.heap.size w W
  err : rolE L [] B = rolE L (B.take k) (B.drop k)
set_option maxRecDepth 100000 in
set_option maxHeartbeats 8000000 in
theorem rollups_any {w : World} {d : Nat} {S : Nat → Prop} {L : List Ch.Ac} {g : Ch.Gh} (h : Ch.Ct w d S L g) {p : Option Addr} {n c : Nat} {B : List Bv} (hB : B.length = n) (hL : Lies kV w p B) (hok : ∀ x ∈ B, BvOk x) (hn : n ≤ 1048576) :
    Calls Tryz.prog 118 #[.pointer (some ⟨d, 0, none⟩), .slice p n c] w (RolOut w L B) := by
  obtain ⟨w0, hw0⟩ : ∃ W, W = w.alloc (.map #[] 0) := ⟨_, rfl⟩
  have b0 : Below w.heap.size w w0 := by rw [hw0]; exact bal (Below.refl _ _) _
  obtain ⟨mb, hmb⟩ : ∃ b, b = w.heap.size := ⟨_, rfl⟩
  have H0 : Hid (RoAt w L B mb 0 w0) := by
    refine ⟨?_, b0, rfl⟩
    rw [hw0, hmb]
    exact Rm.made w
  have hmk := run_makeMap (P := Tryz.prog) 171 w
  rw [← hw0, ← hmb] at hmk
  have HC := hide h; have HB := hide hB; have HL := hide hL; have HOK := hide hok; have HMB := hide hmb
  clear h hB hL hok b0 hw0 hmb
  go_enter Tryz.func118, Tryz.ntmps118
  go_wp2_with fail
  clear hmk
  go_loopw [17] (fun iv W => ∃ (k : Nat) (K : Int), k ≤ n ∧ iv = .int .i64 K ∧ K = (k : Int) ∧ Hid (RoAt w L B mb k W)) (fun iv _ => ((n : Int) - intOf iv).toNat)
  case atStart => exact ⟨0, 0, by omega, rfl, rfl, unhide H0⟩
  case round =>
    obtain ⟨wo, rfl⟩ : ∃ x, x = wr := ⟨wr, rfl⟩
    obtain ⟨k, K, hk, rfl, hK, HA⟩ := hrel
    by_cases hlt : k < n
    · have hI : K < (n : Int) := by omega
      have hK0 : 0 ≤ K := by omega
      have hKt : K.toNat = k := by omega
      have hkB : k < B.length := by have := unhide HB; omega
      obtain ⟨b, o, ep, hb, hld⟩ := ((unhide HL).below (unhide HA).bel).ldV hkB
      obtain ⟨x, hx⟩ : ∃ x, x = B[k] := ⟨_, rfl⟩
      rw [← hx] at hld
      have hxm : x ∈ B := by rw [hx]; exact List.getElem_mem hkB
      have hxo := unhide HOK x hxm
      have HTK : Hid (B.take (k + 1) = B.take k ++ [x]) := by show _ = _; rw [List.take_succ_eq_append_getElem hkB, ← hx]
      have HDR : Hid (B.drop k = x :: B.drop (k + 1)) := by show _ = _; rw [List.drop_eq_getElem_cons hkB, ← hx]
      obtain ⟨w1, hw1⟩ : ∃ W, W = wo.alloc (obV x) := ⟨_, rfl⟩
      have b1 : Below wo.heap.size wo w1 := by rw [hw1]; exact bal (Below.refl _ _) _
      have hh1 : w1.heap[wo.heap.size]? = some (obV x) := by rw [hw1]; exact heap_new _ _
      have hbw1 : Below w.heap.size w w1 := (unhide HA).bel.trans (b1.mono (unhide HA).bel.size)
      obtain ⟨c0, c2⟩ := v_cells hh1
      have hw1' : wo.alloc (.cells #[.string x.acc, .int .i64 x.own, .int .i64 x.rol] 72) = w1 := by rw [hw1]; rfl
      have D1 := Ch.find_any ((unhide HC).below hbw1) x.acc (by have := hxo.acc; omega)
      obtain ⟨fb, hfb⟩ : ∃ b, b = (Ch.fnd L x.acc.data.toList).isSome := ⟨_, rfl⟩
      obtain ⟨A0, hA0⟩ : ∃ A, A = Ch.findA L x.acc.data.toList := ⟨_, rfl⟩
      rw [← hfb, ← hA0] at D1
      unfold Ch.acV Ch.ptr at D1
      have D1 := hide D1
      have HH1 := hide hh1; have HB1 := hide b1; have HFB := hide hfb; have HXO := hide hxo; have HK := hide hK
      have HRM : Hid (∀ W, Below wo.heap.size wo W → Rm W mb k (rolO (B.take k))) := fun W hW => (unhide HA).rm.below hW
      have HBO := hide (unhide HA).bel
      have HER := hide (unhide HA).err
      rw [unhide HDR, rolE] at HER
      subst ep
      unfold cvV at hld
      clear hkB hlt hK hx hxm hxo hw1 b1 hh1 hbw1 hfb hA0 HA hb
      obtain ⟨q, hq⟩ : ∃ q, q = rolO (B.take k) x.acc := ⟨_, rfl⟩
      have HQ := hide hq
      clear hq
      cases fb with
      | false =>
        have HE : Hid (rolE L [] B = 61) := by
          show _ = _
          have hb : balE L (B.take k) x = 61 := by unfold balE; rw [if_pos (unhide HFB).symm]
          have := unhide HER
          rw [hb, if_neg (by decide)] at this
          exact this
        go_wp2_with fail
        refine (unhide D1).mono ?_
        rintro e w2 ⟨rfl, hb2⟩
        have HBX : Hid (Below w.heap.size w w2) := (unhide HBO).trans (((unhide HB1).trans (hb2.mono (unhide HB1).size)).mono (unhide HBO).size)
        clear hb2 D1 c0 c2 hw1' hld
        go_wp2_with fail
        go_ret2
        refine ⟨.inr ⟨by rw [unhide HE]; decide, ?_⟩, bal (unhide HBX) _⟩
        rw [unhide HE]
        rfl
      | true =>
        have HB0 : Hid (∀ r, (if (rolO (B.take k) x.acc).isSome = true then (70 : Int) else if x.rol = -9223372036854775808 then 10 else 0) = r → balE L (B.take k) x = r) := fun r hr => by
          unfold balE
          rw [if_neg (by rw [← unhide HFB]; decide)]
          exact hr
        have HFIND : Hid (∀ W, Below w1.heap.size w1 W → (Instr.lookup 171 (.map (some mb)) (.string x.acc) true).run Tryz.prog W = .ok (.tuple #[.int .i64 (q.getD 0), .bool q.isSome]) W ∧ W.cell? ⟨wo.heap.size, 0, none⟩ = some (.string x.acc) ∧ W.cell? ⟨wo.heap.size, 2, none⟩ = some (.int .i64 x.rol)) := fun W hW => by
          have hm := (unhide HRM W ((unhide HB1).trans (hW.mono (unhide HB1).size))).find x.acc (by have := (unhide HXO).acc; unfold maxLen; omega)
          rw [← unhide HQ] at hm
          exact ⟨hm, v_cells ((hW.block _ (Array.getElem?_eq_some_iff.1 (unhide HH1)).1).trans (unhide HH1))⟩
        go_wp2_with fail
        refine (unhide D1).mono ?_
        rintro e w2 ⟨rfl, hb2⟩
        obtain ⟨w3, hw3⟩ : ∃ W, W = w2.alloc (.cells #[.string (Ch.txN A0.nm), .int .i64 A0.ty, .int .i64 A0.dy, .bool A0.cl] 139) := ⟨_, rfl⟩
        have b13 : Below w1.heap.size w1 w3 := by rw [hw3]; exact hb2.trans ((bal (Below.refl _ _) _).mono hb2.size)
        obtain ⟨f3, e0, e2⟩ := unhide HFIND w3 b13
        have hw3' := hw3.symm
        have HBX : Hid (Below w.heap.size w w3) := (unhide HBO).trans (((unhide HB1).trans (b13.mono (unhide HB1).size)).mono (unhide HBO).size)
        have HRM3 := hide (unhide HRM w3 ((unhide HB1).trans (b13.mono (unhide HB1).size)))
        clear hb2 D1 c0 c2 hw1' hld hw3 b13
        cases q with
        | some v =>
          have HE : Hid (rolE L [] B = 70) := by
            show _ = _
            have hb := unhide HB0 70 (by rw [← unhide HQ]; rfl)
            have := unhide HER
            rw [hb, if_neg (by decide)] at this
            exact this
          go_wp2_with fail
          go_ret2
          refine ⟨.inr ⟨by rw [unhide HE]; decide, ?_⟩, unhide HBX⟩
          rw [unhide HE]
          rfl
        | none =>
          obtain ⟨r, hr⟩ : ∃ r, r = x.rol := ⟨_, rfl⟩
          rw [← hr] at e2
          have HRR := hide hr
          clear hr
          by_cases hm : r = -9223372036854775808
          · subst hm
            have HE : Hid (rolE L [] B = 10) := by
              show _ = _
              have hb := unhide HB0 10 (by rw [← unhide HQ, ← unhide HRR]; rfl)
              have := unhide HER
              rw [hb, if_neg (by decide)] at this
              exact this
            go_wp2_with (go_at_call 164; refine (chk_no _).mono ?_; rintro e wz ⟨rfl, hwz⟩; rw [hwz]; clear hwz wz)
            go_ret2
            refine ⟨.inr ⟨by rw [unhide HE]; decide, ?_⟩, unhide HBX⟩
            rw [unhide HE]
            rfl
          · have hrf := (unhide HXO).rol
            rw [← unhide HRR] at hrf
            have hm2 : -9223372036854775807 ≤ r := by unfold fits64 at hrf; omega
            have DK := hide (chk_yes r w3 hm2)
            obtain ⟨w4, r4, hm4, hg4⟩ := (unhide HRM3).put x.acc (by have := (unhide HXO).acc; unfold maxLen; omega) (by unfold maxLen; omega) r hrf
            have HNEW : Hid (RoAt w L B mb (k + 1) w4) := by
              refine ⟨?_, (unhide HBX).trans (grown_bel hg4 (by rw [unhide HMB]; exact Nat.le_refl _) (unhide HRM3).lt), ?_⟩
              · rw [unhide HTK, rolO_snoc (unhide HQ).symm, ← unhide HRR]
                exact hm4
              · have hb := unhide HB0 0 (by rw [← unhide HQ, ← unhide HRR, if_neg (by decide), if_neg hm])
                have := unhide HER
                rw [hb, if_pos rfl] at this
                rw [unhide HTK]
                exact this
            clear hm4 hg4 hrf hm
            go_wp2_with (go_at_call 164; refine (unhide DK).mono ?_; rintro e wz ⟨rfl, hwz⟩; rw [hwz]; clear hwz wz)
            exact ⟨⟨k + 1, K + 1, by omega, by go_num, by have := unhide HK; omega, unhide HNEW⟩, by have := unhide HK; simp [intOf]; omega⟩
    · have hI : ¬ K < (n : Int) := by omega
      have hkn : k = B.length := by have := unhide HB; omega
      have HFIN : Hid (RolOut w L B (.returned (.tuple #[.map (some mb), .int .i64 0])) wo) := by
        have h := unhide HA
        subst hkn
        have he := h.err
        rw [List.drop_length, rolE] at he
        have hr := h.rm
        rw [List.take_length] at hr
        exact ⟨.inl ⟨he, mb, rfl, hr, by rw [unhide HMB]; exact Nat.le_refl _⟩, h.bel⟩
      clear HA hK
      go_wp2_with fail
      go_ret2
      exact unhide HFIN
end Go.Proofs.YtcafhmlpmbkhkaaGreatDoor
namespace Go.Proofs.YtcafhmlpmbkhkaaGreatDoor
open Go Go.Shelf Go.ChangeShapes Go.WideShapes Go.ChangeAt Go.RowKit Go.Maps
set_option linter.unusedVariables false
set_option linter.unusedSimpArgs false
theorem lies_cV {W : World} {p : Option Addr} {B : List Bv} (h : Lies kV W p B) {k : Nat} (hk : k < B.length) : ∃ b o, p = some ⟨b, o, none⟩ ∧ W.cell? ⟨b, o + k * 3, none⟩ = some (.string B[k].acc) ∧ W.cell? ⟨b, o + k * 3 + 2, none⟩ = some (.int .i64 B[k].rol) := by
  obtain ⟨b, o, e, hb, hr⟩ := h.2 k hk
  exact ⟨b, o, e, hr 0 _ rfl, hr 2 _ rfl⟩
theorem rolO_step {B : List Bv} {k : Nat} (hk : k < B.length) {s : ByteArray} (h : ¬ B[k].acc = s) (h0 : rolO (B.take k) s = none) : rolO (B.take (k + 1)) s = none := by
  rw [List.take_succ_eq_append_getElem hk]
  unfold rolO at h0 ⊢
  rw [Option.map_eq_none_iff] at h0 ⊢
  rw [List.find?_append, h0]
  simp [h]
theorem rolO_hit {B : List Bv} {k : Nat} (hk : k < B.length) {s : ByteArray} (h : B[k].acc = s) (h0 : rolO (B.take k) s = none) : rolO B s = some B[k].rol := by
  have e : B = B.take k ++ B[k] :: B.drop (k + 1) := by
    have := (List.take_append_drop k B).symm
    rwa [List.drop_eq_getElem_cons hk] at this
  unfold rolO at h0 ⊢
  rw [Option.map_eq_none_iff] at h0
  conv => lhs; rw [e]
  rw [List.find?_append, h0, Option.none_or, List.find?_cons_of_pos (by simpa using h)]
  rfl
set_option maxRecDepth 100000 in
set_option maxHeartbeats 8000000 in
theorem rroll_any {w : World} {p : Option Addr} {n c : Nat} {B : List Bv} (hB : B.length = n) (hL : Lies kV w p B) (hn : n ≤ 1048576) (s : ByteArray) :
    Calls Tryz.prog 126 #[.slice p n c, .string s] w (fun e w' => e = .returned (.tuple #[.int .i64 ((rolO B s).getD 0), .bool (rolO B s).isSome]) ∧ w' = w) := by
  have HB := hide hB; have HL := hide hL
  clear hB hL
  go_enter Tryz.func126, Tryz.ntmps126
  go_wp2_with fail
  go_loopw [6] (fun iv W => ∃ (k : Nat) (K : Int), k ≤ n ∧ iv = .int .i64 K ∧ K = (k : Int) ∧ W = w ∧ Hid (rolO (B.take k) s = none)) (fun iv _ => ((n : Int) - intOf iv).toNat)
  case atStart => exact ⟨0, 0, by omega, rfl, rfl, rfl, rfl⟩
  case round =>
    obtain ⟨k, K, hk, rfl, hK, rfl, HA⟩ := hrel
    by_cases hlt : k < n
    · have hI : K < (n : Int) := by omega
      have hK0 : 0 ≤ K := by omega
      have hKt : K.toNat = k := by omega
      have hkB : k < B.length := by have := unhide HB; omega
      obtain ⟨b, o, ep, c0, c2⟩ := lies_cV (unhide HL) hkB
      obtain ⟨x, hx⟩ : ∃ x, x = B[k] := ⟨_, rfl⟩
      rw [← hx] at c0 c2
      subst ep
      obtain ⟨a, ha⟩ : ∃ a, a = x.acc := ⟨_, rfl⟩
      obtain ⟨r, hr⟩ : ∃ r, r = x.rol := ⟨_, rfl⟩
      rw [← ha] at c0
      rw [← hr] at c2
      have HK := hide hK; have HKB : Hid (k < B.length) := hkB
      by_cases he : a = s
      · have HE : Hid (rolO B s = some r) := by
          have := rolO_hit hkB (by rw [← hx, ← ha]; exact he) (unhide HA)
          rw [← hx, ← hr] at this
          exact this
        have hq : (a.toList == s.toList) = true := by rw [he]; simp
        clear hkB hlt hK hx ha hr HA he
        go_wp2_with fail
        go_ret2
        rw [unhide HE]
        exact ⟨rfl, rfl⟩
      · have hq : (a.toList == s.toList) = false := by
          rw [beq_eq_false_iff_ne]
          intro e
          apply he
          rw [ByteArray.toList_eq, ByteArray.toList_eq] at e
          exact ByteArray.ext (Array.toList_inj.1 e)
        have HNEW : Hid (rolO (B.take (k + 1)) s = none) := rolO_step hkB (by rw [← hx, ← ha]; exact he) (unhide HA)
        clear hkB hlt hK hx ha hr HA he
        go_wp2_with fail
        exact ⟨⟨k + 1, K + 1, by omega, by go_num, by have := unhide HK; omega, trivial, unhide HNEW⟩, by have := unhide HK; simp [intOf]; omega⟩
    · have hI : ¬ K < (n : Int) := by omega
      have HE : Hid (rolO B s = none) := by
        have := unhide HA
        rwa [List.take_of_length_le (by have := unhide HB; omega)] at this
      clear HA hK
      go_wp2_with fail
      go_ret2
      rw [unhide HE]
      exact ⟨rfl, rfl⟩
end Go.Proofs.YtcafhmlpmbkhkaaGreatDoor
