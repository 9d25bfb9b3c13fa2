/- sums: From (13): its walk. -/
import Derived.Test.YtgohddimnphbkaaDoorFrB
namespace Go.Proofs.YtgohddimnphbkaaDoor
open Go Go.RowKit Go.Shelf Go.ChangeShapes Go.WideShapes Go.ChangeAt Go.Maps Go.Sort
set_option linter.unusedVariables false
attribute [local go_sem ↓] ld47_is s35_is
theorem up_name {l q : List UInt8} (h : nameL l = true) (hq : q ∈ ups l) : nameL q = true := by
  obtain ⟨j, hj, rfl⟩ := mem_ups.1 hq
  have hjl := lt_of_colon hj
  have e : l = l.take j ++ 58 :: l.drop (j + 1) := by
    have h1 : l[j] = 58 := by
      have := List.getElem?_eq_getElem hjl
      rw [this] at hj
      exact Option.some.inj hj
    rw [← h1, ← List.drop_eq_getElem_cons hjl, List.take_append_drop]
  rw [e] at h
  exact name_above h
theorem held_name {L : Rows8} (hn : named L) {k : List UInt8} (h : heldBy L k) : nameL k = true ∧ k.length < 4611686018427387904 := by
  obtain ⟨x, hx, hk⟩ := h
  obtain ⟨h1, h2⟩ := named_own hn x hx
  rcases List.mem_cons.1 hk with rfl | hk
  · exact ⟨h1, h2⟩
  · have := ((below_iff _ _).1 hk).1
    exact ⟨up_name h1 hk, by omega⟩
set_option maxRecDepth 100000 in
set_option maxHeartbeats 4000000 in
theorem from_any {w : World} {B : Nat} {L : Rows8} {v : Value} {hs : List (List UInt8)} (hb : Bal w B L v hs) (hf : fits L) (hn : named L) (hl : L.length ≤ 1048576) :
    Calls Tryd.prog 13 #[v] w fun e w' => ∃ d mo mr n', e = .returned (.tuple #[.pointer (some ⟨d, 0, none⟩), .int .i64 0]) ∧ View w' d mo mr n' (rws ((srt hs).map (bRow L))) ∧ n' ≤ 68719476736 ∧ (∀ k, Blk d mo mr k → w.heap.size ≤ k) ∧ Below w.heap.size w w' := by
  have hlen := held_len hn hb.nd hb.mem
  obtain ⟨S, hS⟩ : ∃ S, S = srt hs := ⟨_, rfl⟩
  have hSl : S.length = hs.length := by rw [hS, srt_len]
  have hrow := hb.row
  rw [← hS, ← hSl] at hrow
  obtain ⟨n, hnn⟩ : ∃ n, n = S.length := ⟨_, rfl⟩
  rw [← hnn] at hrow
  have hnb : n ≤ 6291456 := by omega
  obtain ⟨pv, cv, e1⟩ : ∃ p c, v = .slice p n c := by
    rcases hrow.2 with ⟨e, h2⟩ | ⟨g, cap, cur, e, _⟩
    · exact ⟨none, 0, by rw [e, h2]⟩
    · exact ⟨_, _, e⟩
  subst e1
  rw [← hS]
  obtain ⟨i0, hi0, hz0, hz1, hz2⟩ := info_parts info35
  have hby : Hid (i0.bytes * n ≤ 281474976710656) := by show _ ≤ _; rw [hz2]; omega
  have hml : Hid (n ≤ maxLen) := by show _ ≤ _; unfold maxLen; omega
  have HB := hide hb; have HROW := hide hrow; have HSN := hide hnn; have HF := hide hf; have HN := hide hn; have HI := hide hi0; have HZ0 := hide hz0; have HZ1 := hide hz1; have HS := hide hS
  clear hb hrow hSl hnn hf hn hlen hi0 hz0 hz1 hz2 hS
  go_enter Tryd.func13, Tryd.ntmps13
  go_wp2_with (at_make; refine wpList_make_full _ rfl _ _ 22 rfl w.heap.size 35 i0 _ 9 Tryd.underlying22 (unhide HI) (unhide HZ0) (unhide HZ1) .i64 .i64 _ _ n rfl rfl rfl rfl (unhide hby) (unhide hml) (Nat.le_refl _) ?_; intro w0 hown0 hgrow0)
  have hM0 : Hid (Mk w w0 w.heap.size n L S 0) := Mk.first hown0 hgrow0
  clear hown0 hgrow0
  go_loopw [13] (fun v13 wr => ∃ (i : Nat), v13 = .int .i64 i ∧ i ≤ n ∧ Hid (Mk w wr w.heap.size n L S i)) (fun v13 _ => n - (intOf v13).toNat)
  case atStart => exact ⟨0, rfl, by omega, hM0⟩
  case round =>
    obtain ⟨i, rfl, hi, hrel⟩ := hrel
    by_cases hlt : i < n
    · have hiS : i < S.length := by rw [← unhide HSN]; exact hlt
      have hM := unhide hrel
      have hrowr := row_keep (unhide HROW) (W' := wr) (fun g hg => hM.bel.block g (row_block (unhide HROW) hg).2.1)
      obtain ⟨q, c, e, r⟩ := row3_cells (unhide HSN).symm hrowr hiS
      have hpv : pv = some ⟨q, 0, none⟩ := by injection e
      subst hpv
      clear e hrowr
      obtain ⟨s, hs'⟩ : ∃ s : ByteArray, s = ⟨(S[i]).toArray⟩ := ⟨_, rfl⟩
      have hse : encStr S[i] = .string s := by rw [hs']
      obtain ⟨F, hF⟩ : ∃ F, F = own L S[i] := ⟨_, rfl⟩
      obtain ⟨G, hG⟩ : ∃ F, F = roll ups L S[i] := ⟨_, rfl⟩
      rw [hse, ← hF, ← hG] at r
      have hld : (ld47 (.pointer (some ⟨q, i * 3, none⟩))).run Tryd.prog wr = .ok (.agg #[.string s, .int .i64 F, .int .i64 G]) wr := run_loadAt_mid (P := Tryd.prog) _ q (i * 3) 47 [.string s, .int .i64 F, .int .i64 G] _ r Tryd.underlying47 rfl size47
      have hMA := hM.below (bal (Below.refl wr.heap.size wr) (.cells #[.string s, .int .i64 F, .int .i64 G] 47))
      have hst := run_s35 hMA.th hlt L s F
      have hv : (bRow L S[i]).vals = [.int .i64 0, .int .i64 0, .int .i64 0, .int .i64 0, .string ⟨#[]⟩, .string s, .int .i64 F, .string ⟨#[]⟩, .string ⟨#[]⟩] := by rw [hF, hs']; rfl
      have hMP := hMA.put (Nat.le_refl _) (unhide HSN).symm hiS
      rw [hv] at hMP
      have HMP := hide hMP
      clear hM hMA hMP hv r hse hs' hF hG hrel
      go_wp2_with fail
      exact ⟨⟨i + 1, by simp, by omega, HMP⟩, by simp [intOf]; omega⟩
    · have hin : i = n := by omega
      subst hin
      have hM := unhide hrel
      have hb := unhide HB
      obtain ⟨O2, hO2⟩ : ∃ O, O = Obj.cells #[.map none, .map none, .int .i64 0, .int .i64 0] 56 := ⟨_, rfl⟩
      have dN := hide (new_any wr)
      rw [← hO2] at dN
      have hV2 : View (wr.alloc O2) wr.heap.size none none 0 [] := by rw [hO2]; exact View.made wr 0
      have hM2 := hM.below (bal (Below.refl wr.heap.size wr) O2)
      have hs2 : (wr.alloc O2).heap.size = wr.heap.size + 1 := by simp
      have hB2 := hM2.bel
      obtain ⟨w2, hw2⟩ : ∃ w2, w2 = wr.alloc O2 := ⟨_, rfl⟩
      rw [← hw2] at hV2 hM2 dN hs2 hB2
      have hRl : (S.map (bRow L)).length = i := by rw [List.length_map]; exact (unhide HSN).symm
      have hrows : RowsAt w2 (some ⟨w.heap.size, 0, none⟩) (S.map (bRow L)) := fun k hk => by
        have hk' : k < S.length := by simpa using hk
        refine ⟨w.heap.size, rfl, hM2.lt, ?_⟩
        rw [List.getElem_map]
        exact hM2.at' k hk' (by rw [unhide HSN]; exact hk')
      have hin : ∀ r ∈ S.map (bRow L), nameL r.acc.data.toList = true ∧ r.acc.size < 4611686018427387904 ∧ isA r.amt := fun r hr => by
        obtain ⟨k, hk, rfl⟩ := List.mem_map.1 hr
        rw [unhide HS, srt_mem, hb.mem] at hk
        obtain ⟨h1, h2⟩ := held_name (unhide HN) hk
        refine ⟨h1, ?_, fits_own (unhide HF) k⟩
        show (⟨k.toArray⟩ : ByteArray).size < _
        simpa [ByteArray.size] using h2
      have hown : ∀ k, own (rws (S.map (bRow L))) k = own L k := fun k => by rw [unhide HS]; exact own_bRow L hb.nd hb.mem k
      have hgood : (∀ r ∈ S.map (bRow L), okRow r) ∧ fits ([] ++ rws (S.map (bRow L))) := by
        refine ⟨fun r hr => ⟨(hin r hr).1, (hin r hr).2.2⟩, ?_⟩
        rw [List.nil_append]
        unfold fits
        rw [DEB_same hown, CRE_same hown]
        exact unhide HF
      have dA := hide (apply_view (cR := i) hV2 (by omega) (by rw [hRl]; omega) hrows (fun q h => by
        injection h with h
        injection h with h
        have := hM.lt
        omega) (fun r hr => (hin r hr).2.1) (fun r hr => by have := (hin r hr).2.2; exact ⟨by have := this.1; omega, this.2⟩))
      rw [hRl] at dA
      have HG := hide hgood; have HM2 := hide hM2; have HS2 := hide hs2; have HO := hide hown; have HRL := hide hRl; have HLT := hide hM.bel.size
      clear hM hb hO2 hV2 hM2 hs2 hB2 hw2 hRl hrows hin hown hgood hrel
      go_wp2_with fail
      refine (unhide dN).mono ?_
      rintro e wx ⟨rfl, hw⟩
      rw [hw]
      clear hw wx dN
      go_wp2_with fail
      refine (unhide dA).mono ?_
      rintro e w4 hO
      rcases hO with ⟨hno, _⟩ | ⟨_, rfl, mo, mr, hV4, hst4⟩
      · exact absurd (unhide HG) hno
      rw [List.nil_append] at hV4
      have hnw : ∀ k, Blk wr.heap.size mo mr k → w.heap.size ≤ k := fun k hk => by
        have h1 := unhide HLT
        have h2 := unhide HS2
        rcases hst4.new k hk with hk | hk
        · rcases hk with rfl | hk | hk
          · omega
          · cases hk
          · cases hk
        · omega
      have hB4 : Below w.heap.size w w4 := (unhide HM2).bel.trans (hst4.fr.toBelow (by have := unhide HLT; have := unhide HS2; omega) (fun k hk => by
        have h1 := unhide HLT
        rcases hk with rfl | hk | hk
        · omega
        · cases hk
        · cases hk))
      have hn4 : 0 + 7 * (S.map (bRow L)).length ≤ 68719476736 := by rw [unhide HRL]; omega
      have dS := hide (state_view hV4 hn4)
      have HV4 := hide hV4; have HB4 := hide hB4; have HNW := hide hnw; have HN4 := hide hn4
      clear hV4 hB4 hnw hst4 dA hn4
      go_wp2_with fail
      refine (unhide dS).mono ?_
      rintro e w5 ⟨v5, hs5, rfl, hbal5, hlen5, hb5⟩
      have hB5 : Below w.heap.size w w5 := (unhide HB4).trans (hb5.mono (unhide HB4).size)
      have hbal0 := (unhide HB).keep (W' := w5) (fun g hg => hB5.block g (row_block (unhide HB).row hg).2.1)
      have hsame := hbal5.same hbal0 (unhide HO)
      have hr5 := hbal5.row
      have hr0 := hbal0.row
      rw [hsame.1, hsame.2] at hr5
      have hlh : hs.length = i := by rw [unhide HSN, unhide HS, srt_len]
      rw [hlh] at hr5 hr0
      have dE := hide (equal_any (by rw [srt_len]; exact hlh) (by omega) hr5 hr0)
      have HV5 := hide ((unhide HV4).below hb5); have HB5 := hide hB5
      clear hbal5 hlen5 hb5 hB5 hbal0 hsame hr5 hr0 dS
      go_wp2_with fail
      refine (unhide dE).mono ?_
      rintro e wx ⟨rfl, m, hw⟩
      have HBX : Hid (Below w.heap.size w wx) := by rw [hw]; exact below_drewN (unhide HB5) m
      have HVX : Hid (View wx wr.heap.size mo mr (0 + 7 * (S.map (bRow L)).length) (rws (S.map (bRow L)))) := (unhide HV5).block (fun k _ => by rw [hw]; simp)
      clear hw
      go_wp2_with fail
      go_ret2
      exact ⟨_, _, _, _, rfl, unhide HVX, unhide HN4, unhide HNW, unhide HBX⟩
end Go.Proofs.YtgohddimnphbkaaDoor
