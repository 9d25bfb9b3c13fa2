/- disk: Remove (33), Rename (32). -/
import Derived.Test.YtpeohbkigkfcgaaDkC
namespace Go.Proofs.Ytpeohbkigkfcgaa
open Go Go.Shelf Go.ChangeShapes Go.WideShapes Go.ChangeAt Go.RowKit
set_option linter.unusedVariables false
/-- a file taken away -/
theorem DiskIs.drop {w w' : World} {d N n b : Nat} {K : Dk} {S : Nat → Prop} {es : List (Lit × DataW Value)} (h : DiskIs w d N K S (some b) n es) (k : List UInt8) (hm : w'.ownsMap Try.prog 9 fileElem b n ((DataW.map es).del (.string k))) (hg : w.grownBy w' (some b)) :
    DiskIs w' d N { K with A := delF k K.A } S (some b) n (es.filter fun p => !p.1.sameKey (.string k)) := by
  have hdb := (h.mb b rfl).1
  have hdl := h.at'.lt
  have hblk : w'.heap[d]? = w.heap[d]? := hg.block d hdl (fun e => hdb (Option.some.inj e))
  refine ⟨⟨(World.cell?_of_block (a := ⟨d, 0, none⟩) hblk).trans h.at'.c0, (World.cell?_of_block (a := ⟨d, 1, none⟩) hblk).trans h.at'.c1, (World.cell?_of_block (a := ⟨d, 2, none⟩) hblk).trans h.at'.c2, (World.cell?_of_block (a := ⟨d, 3, none⟩) hblk).trans h.at'.c3, .inr ⟨b, rfl, hm⟩⟩, (h.fs.del k).far (fun e he q hq => hg.block q (h.lt (List.mem_filter.1 he).1 hq) (fun e' => (h.mb b rfl).2.2 e (List.mem_filter.1 he).1 (by rw [hq, e']))), h.nle, fun b' hb' => ⟨(h.mb b' hb').1, (h.mb b' hb').2.1, fun e he => (h.mb b' hb').2.2 e (List.mem_filter.1 he).1⟩, fun e he => h.db e (List.mem_filter.1 he).1, fun e he => h.eb e (List.mem_filter.1 he).1, fun j => (World.frozen?_of_block (a := ⟨d, j, none⟩) hblk).trans (h.fz j), h.sd, fun q hq => Nat.lt_of_lt_of_le (h.sl q hq) hg.size⟩
theorem Sep.map {w w' : World} {S : Nat → Prop} {b : Nat} (hg : w.grownBy w' (some b)) (hb : S b) : Sep w w' S S := ⟨hg.os, hg.tape, hg.output, hg.size, fun q hq hS => hg.block q hq (fun e => hS (by rw [Option.some.inj e]; exact hb)), fun _ h => .inl h⟩
theorem DiskIs.some_of {w : World} {d N n : Nat} {K : Dk} {S : Nat → Prop} {mo : Option Nat} {es : List (Lit × DataW Value)} (h : DiskIs w d N K S mo n es) {e : Lit × DataW Value} (he : e ∈ es) : ∃ b, mo = some b ∧ w.ownsMap Try.prog 9 fileElem b n (.map es) := by
  rcases h.at'.files with ⟨_, h2⟩ | h2
  · injection h2 with h2
    rw [h2] at he
    cases he
  · exact h2
set_option maxRecDepth 100000 in
set_option maxHeartbeats 4000000 in
theorem remove_do (s : ByteArray) (hs : s.size ≤ maxLen) (B0 B1 : Nat) {w : World} {d N n b : Nat} {K : Dk} {S : Nat → Prop} {es : List (Lit × DataW Value)} (h : DiskIs w d N K S (some b) n es) (hm : w.ownsMap Try.prog 9 fileElem b n (.map es))
    (k0 : w.cell? ⟨B0, 0, none⟩ = some (.pointer (some ⟨d, 0, none⟩))) (k1 : w.cell? ⟨B1, 0, none⟩ = some (.string s)) :
    Calls Try.prog 51 #[.pointer (some ⟨B0, 0, none⟩), .pointer (some ⟨B1, 0, none⟩)] w fun e w' => (∃ v, e = .returned v) ∧ ∃ S', DiskOK w' d (N + 1) { K with A := delF s.data.toList K.A } S' ∧ Sep w w' S S' := by
  have dc := h.at'.c1
  obtain ⟨w', hrun, hm', hg'⟩ := (hm.drew).drop (t := 62) (e := 67) (Maps.string_keyed Try.underlying9) Try.underlying62 (key9 hs) 0
  have HM := hide hm'; have HG := hide hg'; have HD := hide h
  clear hm' hg' h hm
  go_enter Try.func51, Try.ntmps51
  go_wp2_with fail
  go_region
  all_goals go_wp2_with fail
  go_end0
  have hg0 := (unhide HG).grown
  have hg : w.grownBy w' (some b) := ⟨hg0.os, hg0.tape, hg0.output, hg0.size, hg0.block⟩
  exact ⟨⟨_, rfl⟩, S, DiskOK.mono ⟨some b, n, _, (unhide HD).drop s.data.toList (unhide HM) hg⟩ (by omega), Sep.map hg ((unhide HD).mb b rfl).2.1⟩
set_option maxRecDepth 100000 in
set_option maxHeartbeats 4000000 in
theorem remove_ok {w : World} {d N n : Nat} {K : Dk} {S : Nat → Prop} {mo : Option Nat} {es : List (Lit × DataW Value)} (h : DiskIs w d N K S mo n es) (hN : N < 1000000) (hf1 : K.fuse ≤ 9223372036854775807) (s : ByteArray) (hs : s.size ≤ maxLen) :
    Calls Try.prog 33 #[.pointer (some ⟨d, 0, none⟩), .string s] w fun e w' => e = .returned (.int .i64 (chgK K (erF s K) (delF s.data.toList K.A)).2) ∧ ∃ S', DiskOK w' d (N + 1) (chgK K (erF s K) (delF s.data.toList K.A)).1 S' ∧ Sep w w' S S' := by
  have hdl := h.at'.lt
  have HD := hide h
  obtain ⟨R, hR⟩ : ∃ R, R = chgK K (erF s K) (delF s.data.toList K.A) := ⟨_, rfl⟩
  rw [← hR]
  have HR := hide hR
  clear h hR
  go_enter Try.func33, Try.ntmps33
  go_wp2_with fail
  have B0 : Hid (Below w.heap.size w ((w.alloc (.cells #[.pointer (some ⟨d, 0, none⟩)] 23)).alloc (.cells #[.string s] 9))) := bal (bal (Below.refl w.heap.size w) _) _
  refine (find_ok ((unhide HD).below (unhide B0)) s hs).mono ?_
  rintro e w3 ⟨⟨p, m, c, y, er, rfl, hfo⟩, hb3⟩
  have HFO := hide hfo
  have hz3 := hb3.size
  simp only [World.size_alloc] at hz3
  have k0 : w3.cell? ⟨w.heap.size, 0, none⟩ = some (.pointer (some ⟨d, 0, none⟩)) := (hb3.cell (p := ⟨w.heap.size, 0, none⟩) (by simp; omega)).trans (by simp)
  have k1 : w3.cell? ⟨w.heap.size + 1, 0, none⟩ = some (.string s) := (hb3.cell (p := ⟨w.heap.size + 1, 0, none⟩) (by simp)).trans (by simp)
  have B3 : Hid (Below w.heap.size w w3) := (unhide B0).trans (hb3.mono (by simp; omega))
  have HB3 := hide hb3
  have ka0 : ∀ o, (w3.alloc o).cell? ⟨w.heap.size, 0, none⟩ = some (.pointer (some ⟨d, 0, none⟩)) := fun o => keep1 (bal (Below.refl w3.heap.size w3) o) (by omega) k0
  have ka1 : Hid (∀ o, (w3.alloc o).cell? ⟨w.heap.size + 1, 0, none⟩ = some (.string s)) := fun o => keep1 (bal (Below.refl w3.heap.size w3) o) (by omega) k1
  clear hfo hb3
  go_wp2_with fail
  obtain ⟨w4, hw4⟩ : ∃ w4, w4 = w3.alloc (.cells #[.slice p m c, .int .i64 y] 67) := ⟨_, rfl⟩
  have B34 : Hid (Below w3.heap.size w3 w4) := by rw [hw4]; exact bal (Below.refl _ _) _
  have B4 : Hid (Below w.heap.size w w4) := step_below (unhide B3) (Nat.le_refl _) (unhide B34)
  have q0 : w4.cell? ⟨w.heap.size, 0, none⟩ = some (.pointer (some ⟨d, 0, none⟩)) := by rw [hw4]; exact ka0 _
  have q1 : w4.cell? ⟨w.heap.size + 1, 0, none⟩ = some (.string s) := by rw [hw4]; exact unhide ka1 _
  have q2 : w4.cell? ⟨w3.heap.size, 0, none⟩ = some (.slice p m c) := by rw [hw4]; simp
  have q3 : w4.cell? ⟨w3.heap.size, 1, none⟩ = some (.int .i64 y) := by rw [hw4]; simp
  rw [← hw4]
  clear hw4 ka0
  have hD4 := (unhide HD).below (unhide B4)
  refine (change_ok hD4 hf1 er (delF s.data.toList K.A) 51 _ (enters_of Try.func51 (by kernel_rfl) rfl) ?hdo).mono ?fin
  case hdo =>
    rintro hdn he0 hf0 w1 z hor hD1
    obtain ⟨x, hh⟩ := (unhide HFO).2.2 he0
    obtain ⟨b, hmo, hm⟩ := hD1.some_of hh.mem
    subst hmo
    exact remove_do s hs w.heap.size (w.heap.size + 1) hD1 hm ((cells_or hor _ (by show w.heap.size ≠ d; omega)).trans q0) ((cells_or hor _ (by show w.heap.size + 1 ≠ d; omega)).trans q1)
  case fin =>
    rintro e w5 ⟨rfl, S', hok, hsep⟩
    rw [(unhide HFO).1, ← unhide HR] at hok ⊢
    have HX : Hid (∃ S', DiskOK w5 d (N + 1) R.1 S' ∧ Sep w w5 S S') := ⟨S', hok, (Sep.of_below S (unhide B4)).trans hsep⟩
    clear hok hsep
    go_wp2_with fail
    go_ret
    exact ⟨rfl, unhide HX⟩
def erR (s t : ByteArray) (K : Dk) : Int := if nameS t = false then 32 else erF s K
def renA (s t : ByteArray) (K : Dk) : Fs := match getF s.data.toList K.A with
  | some x => putF t.data.toList x (delF s.data.toList K.A)
  | none => K.A
set_option maxRecDepth 100000 in
set_option maxHeartbeats 4000000 in
theorem rename_do (s t : ByteArray) (hs : s.size ≤ maxLen) (ht : t.size ≤ maxLen) (p : Option Addr) (c : Nat) (B0 B1 B2 B3 : Nat) {w : World} {d N n b : Nat} {K : Dk} {S : Nat → Prop} {es : List (Lit × DataW Value)} (h : DiskIs w d N K S (some b) n es) (hN : N < 1000000) (hm : w.ownsMap Try.prog 9 fileElem b n (.map es)) (x : Fl) (hrow : w.ownsRow 0 5 1 (.slice p x.bs.length c) x.bs.length (bcs x.bs))
    (hb : ∀ q, (Value.slice p x.bs.length c).ownBlock = some q → S q ∧ q ≠ d ∧ some b ≠ some q ∧ ∀ e ∈ es, e.1 ≠ .string s.data.toList → blk e ≠ some q)
    (h0 : B0 ≠ b) (h1 : B1 ≠ b) (h2 : B2 ≠ b) (h3 : B3 ≠ b) (k0 : w.cell? ⟨B0, 0, none⟩ = some (.pointer (some ⟨d, 0, none⟩))) (k1 : w.cell? ⟨B1, 0, none⟩ = some (.string s)) (k2 : w.cell? ⟨B2, 0, none⟩ = some (.string t)) (k3 : w.cell? ⟨B3, 0, none⟩ = some (.slice p x.bs.length c)) (k4 : w.cell? ⟨B3, 1, none⟩ = some (.int .i64 (x.sy : Int))) :
    Calls Try.prog 50 #[.pointer (some ⟨B0, 0, none⟩), .pointer (some ⟨B1, 0, none⟩), .pointer (some ⟨B2, 0, none⟩), .pointer (some ⟨B3, 0, none⟩)] w fun e w' => (∃ v, e = .returned v) ∧ ∃ S', DiskOK w' d (N + 1) { K with A := putF t.data.toList x (delF s.data.toList K.A) } S' ∧ Sep w w' S S' := by
  have dc := h.at'.c1
  obtain ⟨w2, hrun, hm', hg'⟩ := (hm.drew).drop (t := 62) (e := 67) (Maps.string_keyed Try.underlying9) Try.underlying62 (key9 hs) 0
  have hg0 := hg'.grown
  have hg : w.grownBy w2 (some b) := ⟨hg0.os, hg0.tape, hg0.output, hg0.size, hg0.block⟩
  have hcell : ∀ a : Addr, ∀ v, a.block ≠ b → w.cell? a = some v → w2.cell? a = some v := fun a v ha hv => (hg.cell_far a (World.block_lt_of_cell? w a hv) (by simpa using ha)).trans hv
  have e0 := hcell _ _ h0 k0
  have e2 := hcell _ _ h2 k2
  have e3 := hcell _ _ h3 k3
  have e4 := hcell _ _ h3 k4
  have hD2 := h.drop s.data.toList hm' hg
  have HP := hide (put_is hD2 hN t ht p c x (row_far hrow (fun q hq => hg.block q (hrow.lt q hq).2 (fun e => (hb q hq).2.2.1 e.symm))) (fun q hq => ⟨(hb q hq).1, (hb q hq).2.1, (hb q hq).2.2.1, fun e he hne => (hb q hq).2.2.2 e (List.mem_filter.1 he).1 (fun e' => by have h' := (List.mem_filter.1 he).2; rw [e', string_same] at h'; simp at h')⟩))
  have HS : Hid (Sep w w2 S S) := Sep.map hg (h.mb b rfl).2.1
  clear hm' hg' h hm hg0 hg hcell hD2 hrow hb k2 k3 k4
  go_enter Try.func50, Try.ntmps50
  go_wp2_with fail
  go_region
  all_goals go_wp2_with fail
  all_goals
    refine (unhide HP).mono ?_
    rintro e w' ⟨⟨r, rfl⟩, S', h1, h2⟩
    have H : Hid (∃ S', DiskOK w' d (N + 1) { K with A := putF t.data.toList x (delF s.data.toList K.A) } S' ∧ Sep w w' S S') := ⟨S', h1, (unhide HS).trans h2⟩
    clear h1 h2
    go_wp2_with fail
    go_end0
    exact ⟨⟨_, rfl⟩, unhide H⟩
set_option maxRecDepth 100000 in
set_option maxHeartbeats 4000000 in
theorem rename_ok {w : World} {d N n : Nat} {K : Dk} {S : Nat → Prop} {mo : Option Nat} {es : List (Lit × DataW Value)} (h : DiskIs w d N K S mo n es) (hN : N < 1000000) (hf1 : K.fuse ≤ 9223372036854775807) (s t : ByteArray) (hs : s.size ≤ maxLen) (ht : t.size ≤ maxLen) :
    Calls Try.prog 32 #[.pointer (some ⟨d, 0, none⟩), .string s, .string t] w fun e w' => e = .returned (.int .i64 (chgK K (erR s t K) (renA s t K)).2) ∧ ∃ S', DiskOK w' d (N + 1) (chgK K (erR s t K) (renA s t K)).1 S' ∧ Sep w w' S S' := by
  have hdl := h.at'.lt
  have HD := hide h
  obtain ⟨R, hR⟩ : ∃ R, R = chgK K (erR s t K) (renA s t K) := ⟨_, rfl⟩
  rw [← hR]
  have HR := hide hR
  clear h hR
  have hnm := hide (isName_any t (by unfold maxLen at ht; omega))
  go_enter Try.func32, Try.ntmps32
  go_wp2_with fail
  have B0 : Hid (Below w.heap.size w (((w.alloc (.cells #[.pointer (some ⟨d, 0, none⟩)] 23)).alloc (.cells #[.string s] 9)).alloc (.cells #[.string t] 9))) := bal (bal (bal (Below.refl w.heap.size w) _) _) _
  refine (find_ok ((unhide HD).below (unhide B0)) s hs).mono ?_
  rintro e w3 ⟨⟨p, m, c, y, er, rfl, hfo⟩, hb3⟩
  have HFO := hide hfo
  have hz3 := hb3.size
  simp only [World.size_alloc] at hz3
  have j0 : (((w.alloc (.cells #[.pointer (some ⟨d, 0, none⟩)] 23)).alloc (.cells #[.string s] 9)).alloc (.cells #[.string t] 9)).cell? ⟨w.heap.size, 0, none⟩ = some (.pointer (some ⟨d, 0, none⟩)) := (World.cell?_alloc_lt _ _ _ (by simp; omega)).trans ((World.cell?_alloc_lt _ _ _ (by simp)).trans (by rw [World.cell?_alloc_mark]; rfl))
  have j1 : (((w.alloc (.cells #[.pointer (some ⟨d, 0, none⟩)] 23)).alloc (.cells #[.string s] 9)).alloc (.cells #[.string t] 9)).cell? ⟨w.heap.size + 1, 0, none⟩ = some (.string s) := (World.cell?_alloc_lt _ _ _ (by simp)).trans (by have h := World.cell?_alloc_mark (w.alloc (.cells #[.pointer (some ⟨d, 0, none⟩)] 23)) #[.string s] 9 (0, 0) 0; rw [World.size_alloc] at h; exact h)
  have j2 : (((w.alloc (.cells #[.pointer (some ⟨d, 0, none⟩)] 23)).alloc (.cells #[.string s] 9)).alloc (.cells #[.string t] 9)).cell? ⟨w.heap.size + 1 + 1, 0, none⟩ = some (.string t) := by have h := World.cell?_alloc_mark ((w.alloc (.cells #[.pointer (some ⟨d, 0, none⟩)] 23)).alloc (.cells #[.string s] 9)) #[.string t] 9 (0, 0) 0; rw [World.size_alloc, World.size_alloc] at h; exact h
  have k0 : w3.cell? ⟨w.heap.size, 0, none⟩ = some (.pointer (some ⟨d, 0, none⟩)) := keep1 hb3 (by simp; omega) j0
  have k1 : w3.cell? ⟨w.heap.size + 1, 0, none⟩ = some (.string s) := keep1 hb3 (by simp) j1
  have k2 : w3.cell? ⟨w.heap.size + 1 + 1, 0, none⟩ = some (.string t) := keep1 hb3 (by simp) j2
  have B3 : Hid (Below w.heap.size w w3) := (unhide B0).trans (hb3.mono (by simp; omega))
  have HB3 := hide hb3
  have ka0 := hide (fun o => keep1 (bal (Below.refl w3.heap.size w3) o) (by omega) k0)
  have ka1 := hide (fun o => keep1 (bal (Below.refl w3.heap.size w3) o) (by omega) k1)
  have ka2 : ∀ o, (w3.alloc o).cell? ⟨w.heap.size + 1 + 1, 0, none⟩ = some (.string t) := fun o => keep1 (bal (Below.refl w3.heap.size w3) o) (by omega) k2
  clear hfo hb3 j0 j1 j2
  go_wp2_with fail
  obtain ⟨w4, hw4⟩ : ∃ w4, w4 = w3.alloc (.cells #[.slice p m c, .int .i64 y] 67) := ⟨_, rfl⟩
  have B34 : Hid (Below w3.heap.size w3 w4) := by rw [hw4]; exact bal (Below.refl _ _) _
  have hz4 : w4.heap.size = w3.heap.size + 1 := by rw [hw4]; simp
  have q0 := hide (show w4.cell? ⟨w.heap.size, 0, none⟩ = some (.pointer (some ⟨d, 0, none⟩)) by rw [hw4]; exact unhide ka0 _)
  have q1 := hide (show w4.cell? ⟨w.heap.size + 1, 0, none⟩ = some (.string s) by rw [hw4]; exact unhide ka1 _)
  have q2 := hide (show w4.cell? ⟨w.heap.size + 1 + 1, 0, none⟩ = some (.string t) by rw [hw4]; exact ka2 _)
  have q3 := hide (show w4.cell? ⟨w3.heap.size, 0, none⟩ = some (.slice p m c) by rw [hw4]; simp)
  have q4 := hide (show w4.cell? ⟨w3.heap.size, 1, none⟩ = some (.int .i64 y) by rw [hw4]; simp)
  rw [← hw4]
  clear hw4 ka0 ka1 ka2 k0 k1 k2
  refine (unhide hnm w4).mono ?_
  rintro e w5 ⟨rfl, hb5⟩
  have HB5 := hide hb5
  have hz5 := hb5.size
  have B5 : Hid (Below w.heap.size w w5) := step_below (step_below (unhide B3) (Nat.le_refl _) (unhide B34)) (Nat.le_refl _) hb5
  have r0 := keep1 hb5 (by omega) (unhide q0)
  have r1 := keep1 hb5 (by omega) (unhide q1)
  have r2 := keep1 hb5 (by omega) (unhide q2)
  have r3 := keep1 hb5 (by omega) (unhide q3)
  have r4 := keep1 hb5 (by omega) (unhide q4)
  clear hb5
  have hD5 := hide ((unhide HD).below (unhide B5))
  have key : Hid (∀ er', er' = erR s t K → Calls Try.prog 40 #[.pointer (some ⟨d, 0, none⟩), .int .i64 er', .func (.func 50) #[] #[.pointer (some ⟨w.heap.size, 0, none⟩), .pointer (some ⟨w.heap.size + 1, 0, none⟩), .pointer (some ⟨w.heap.size + 1 + 1, 0, none⟩), .pointer (some ⟨w3.heap.size, 0, none⟩)]] w5 fun e w' => e = .returned (.int .i64 R.2) ∧ ∃ S', DiskOK w' d (N + 1) R.1 S' ∧ Sep w w' S S') := by
    intro er' her
    refine (change_ok (unhide hD5) hf1 er' (renA s t K) 50 _ (enters_of Try.func50 (by kernel_rfl) rfl) ?hdo).mono ?fin
    case hdo =>
      rintro hdn he0 hf0 w1 z hor hD1
      have hz : er = 0 := by
        rw [(unhide HFO).1]
        rw [her] at he0
        unfold erR at he0
        split at he0
        · omega
        · exact he0
      obtain ⟨x, hh⟩ := (unhide HFO).2.2 hz
      have hown := hh.own ((unhide HD).below (unhide B0))
      have hrow5 := own_below (own_below (own_below hh.row (unhide HB3)) (unhide B34)) (unhide HB5)
      have hA : renA s t K = putF t.data.toList x (delF s.data.toList K.A) := by unfold renA; rw [hh.get]
      obtain ⟨b, hmo, hm⟩ := hD1.some_of hh.mem
      subst hmo
      have hml := hh.len
      have hsy := hh.syn
      subst hml hsy
      rw [hA]
      have hbl : b < w.heap.size := by
        rcases (unhide HD).at'.files with ⟨h1, _⟩ | ⟨b', h1, h2⟩
        · cases h1
        · injection h1 with h1
          subst h1
          exact h2.lt
      exact rename_do s t hs ht p c w.heap.size (w.heap.size + 1) (w.heap.size + 1 + 1) w3.heap.size hD1 hN hm x (rows_or hor hrow5 (fun q hq => (hown q hq).2.1)) hown (by omega) (by omega) (by omega) (by omega) ((cells_or hor _ (by show w.heap.size ≠ d; omega)).trans r0) ((cells_or hor _ (by show w.heap.size + 1 ≠ d; omega)).trans r1) ((cells_or hor _ (by show w.heap.size + 1 + 1 ≠ d; omega)).trans r2) ((cells_or hor _ (by show w3.heap.size ≠ d; omega)).trans r3) ((cells_or hor _ (by show w3.heap.size ≠ d; omega)).trans r4)
    case fin =>
      rintro e w6 ⟨rfl, S', hok, hsep⟩
      rw [her, ← unhide HR] at hok ⊢
      exact ⟨rfl, S', hok, (Sep.of_below S (unhide B5)).trans hsep⟩
  clear r1 r2 r3 r4
  cases hb : nameS t with
  | false =>
    have he : (32 : Int) = erR s t K := by unfold erR; rw [if_pos hb]
    have HK := hide (unhide key 32 he)
    clear he
    go_wp2_with fail
    refine (unhide HK).mono ?_
    rintro e w6 ⟨rfl, hx⟩
    have HX := hide hx
    clear hx
    go_wp2_with fail
    go_ret
    exact ⟨rfl, unhide HX⟩
  | true =>
    have he : er = erR s t K := by unfold erR; rw [if_neg (by rw [hb]; simp)]; exact (unhide HFO).1
    have HK := hide (unhide key er he)
    clear he
    go_wp2_with fail
    refine (unhide HK).mono ?_
    rintro e w6 ⟨rfl, hx⟩
    have HX := hide hx
    clear hx
    go_wp2_with fail
    go_ret
    exact ⟨rfl, unhide HX⟩
end Go.Proofs.Ytpeohbkigkfcgaa
