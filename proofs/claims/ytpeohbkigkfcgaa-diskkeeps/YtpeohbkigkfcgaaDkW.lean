/- disk: Down (29), List (27), Read (26) from the beginning of a file that is there. -/
import Derived.Test.YtpeohbkigkfcgaaDkR
namespace Go.Proofs.Ytpeohbkigkfcgaa
open Go Go.Shelf Go.ChangeShapes Go.WideShapes Go.ChangeAt Go.RowKit Go.Maps Go.Sort
set_option linter.unusedVariables false
set_option maxRecDepth 100000 in
set_option maxHeartbeats 4000000 in
theorem down_ok {w : World} {d N n : Nat} {K : Dk} {S : Nat → Prop} {mo : Option Nat} {es : List (Lit × DataW Value)} (h : DiskIs w d N K S mo n es) :
    Calls Try.prog 29 #[.pointer (some ⟨d, 0, none⟩)] w fun e w' => e = .returned (.bool K.down) ∧ w' = w := by
  have c3 := h.at'.c3
  clear h
  go_enter Try.func29, Try.ntmps29
  go_wp2_with fail
  go_ret
  exact ⟨rfl, rfl⟩
set_option maxRecDepth 100000 in
set_option maxHeartbeats 4000000 in
theorem list_ok {w : World} {d N n : Nat} {K : Dk} {S : Nat → Prop} {mo : Option Nat} {es : List (Lit × DataW Value)} (h : DiskIs w d N K S mo n es) (hO : OrdF K.A) (hl : K.A.length ≤ 64) (hdn : K.down = false) :
    Calls Try.prog 27 #[.pointer (some ⟨d, 0, none⟩)] w fun e w' => ∃ v, e = .returned (.tuple #[v, .int .i64 0]) ∧ w'.ownsRow w.heap.size 9 1 v K.A.length ((K.A.map (·.1)).map encStr) ∧ Below w.heap.size w w' := by
  have c3 := h.at'.c3
  rw [hdn] at c3
  have HN := hide (names_ok h hO hl)
  clear h
  go_enter Try.func27, Try.ntmps27
  go_wp2_with fail
  refine (unhide HN).mono ?_
  rintro e w1 ⟨v, rfl, h1, h2⟩
  have H1 := hide h1; have H2 := hide h2
  clear h1 h2
  go_wp2_with fail
  go_ret2
  exact ⟨v, rfl, unhide H1, unhide H2⟩
set_option maxRecDepth 100000 in
set_option maxHeartbeats 4000000 in
theorem look_hit {w : World} {d N n : Nat} {K : Dk} {S : Nat → Prop} {mo : Option Nat} {es : List (Lit × DataW Value)} (h : DiskIs w d N K S mo n es) (s : ByteArray) (hs : s.size ≤ maxLen) (hdn : K.down = false) (hn : nameS s = true) {x : Fl} (hx : getF s.data.toList K.A = some x) :
    Calls Try.prog 46 #[.pointer (some ⟨d, 0, none⟩), .string s] w fun e w' => (∃ p c, e = .returned (.tuple #[.agg #[.slice p x.bs.length c, .int .i64 (x.sy : Int)], .int .i64 0]) ∧ w'.ownsRow 0 5 1 (.slice p x.bs.length c) x.bs.length (bcs x.bs)) ∧ Below w.heap.size w w' := by
  have c3 := h.at'.c3
  rw [hdn] at c3
  have hdl := h.at'.lt
  have he : erF s K = 0 := by unfold erF; rw [if_neg (by rw [hn]; simp), if_pos (by rw [hx]; rfl)]
  have HD := hide h
  clear h
  have B0 : Hid (Below w.heap.size w (w.alloc (.cells #[.slice none 0 0, .int .i64 0] 67))) := bal (Below.refl w.heap.size w) _
  go_enter Try.func46, Try.ntmps46
  go_wp2_with fail
  refine (find_ok ((unhide HD).below (unhide B0)) s hs).mono ?_
  rintro e w1 ⟨⟨p, m, c, y, er, rfl, hfo⟩, hb1⟩
  have her : er = 0 := hfo.1.trans he
  obtain ⟨x', hh⟩ := hfo.2.2 her
  have hxx : x' = x := Option.some.inj (hh.get.symm.trans hx)
  subst hxx
  have hml := hh.len
  have hsy := hh.syn
  have R1 := hide (own_below hh.row hb1)
  have hown := hh.own ((unhide HD).below (unhide B0))
  have hne : Hid (∀ q, (Value.slice p m c).ownBlock = some q → q ≠ w.heap.size) := fun q hq e => by
    have h1 := (unhide HD).sl q (hown q hq).1
    omega
  clear hh hown
  subst hml hsy her
  have c0 : w1.cell? ⟨w.heap.size, 0, none⟩ = some (.slice none 0 0) := (hb1.cell (p := ⟨w.heap.size, 0, none⟩) (by simp)).trans (by simp)
  have c1 : w1.cell? ⟨w.heap.size, 1, none⟩ = some (.int .i64 0) := (hb1.cell (p := ⟨w.heap.size, 1, none⟩) (by simp)).trans (by simp)
  have f0 : w1.frozen? ⟨w.heap.size, 0, none⟩ = false := (hb1.frozen (p := ⟨w.heap.size, 0, none⟩) (by simp)).trans (by simp)
  have f1 : w1.frozen? ⟨w.heap.size, 1, none⟩ = false := (hb1.frozen (p := ⟨w.heap.size, 1, none⟩) (by simp)).trans (by simp)
  have B1 : Hid (Below w.heap.size w w1) := (unhide B0).trans (hb1.mono (by simp))
  clear hfo hb1 he hx
  go_wp2_with fail
  refine bodyPost_ret (ret_file (b := w.heap.size) (p := p) (n := x'.bs.length) (c := c) (y := (x'.sy : Int)) (er := .int .i64 0) (by go_simp) (by go_simp) rfl rfl) rfl ?_
  exact ⟨⟨p, c, rfl, row_far (row_far (unhide R1) (fun q hq => Below.heap_setCell _ ⟨w.heap.size, 0, none⟩ _ q (unhide hne q hq))) (fun q hq => Below.heap_setCell _ ⟨w.heap.size, 1, none⟩ _ q (unhide hne q hq))⟩, ((unhide B1).setCell (p := ⟨w.heap.size, 0, none⟩) (Nat.le_refl _) _).setCell (p := ⟨w.heap.size, 1, none⟩) (Nat.le_refl _) _⟩
theorem bytes_cut {W : World} {b c m : Nat} {p : Option Addr} {bs : List UInt8} (h : W.ownsRow b 5 1 (.slice p bs.length c) bs.length (bcs bs)) (hm : m ≤ bs.length) : BytesAt W (.slice p (bs.take m).length c) (bs.take m) := by
  rcases BytesAt.of_row h with ⟨h1, h2⟩ | ⟨b', off, c', h1, h2⟩
  · injection h1 with h1 _ h1c
    subst h1 h1c h2
    exact .inl ⟨by simp, by simp⟩
  · injection h1 with h1 _ h1c
    subst h1 h1c
    refine .inr ⟨b', off, _, rfl, fun j u hj => h2 j u ?_⟩
    rw [bcs_take, List.getElem?_take] at hj
    split at hj
    · exact hj
    · cases hj
set_option maxRecDepth 100000 in
set_option maxHeartbeats 4000000 in
theorem read_ok {w : World} {d N n : Nat} {K : Dk} {S : Nat → Prop} {mo : Option Nat} {es : List (Lit × DataW Value)} (h : DiskIs w d N K S mo n es) (s : ByteArray) (hs : s.size ≤ maxLen) (hdn : K.down = false) (hn : nameS s = true) {x : Fl} (hx : getF s.data.toList K.A = some x) (hxl : x.bs.length ≤ 1048576) (m : Nat) (hm : m ≤ x.bs.length) :
    Calls Try.prog 26 #[.pointer (some ⟨d, 0, none⟩), .string s, .int .i64 0, .int .i64 (m : Int)] w fun e w' => (∃ p c, e = .returned (.tuple #[.slice p m c, .int .i64 0]) ∧ w'.ownsRow w.heap.size 5 1 (.slice p m c) m (bcs (x.bs.take m))) ∧ Below w.heap.size w w' := by
  have HK := hide (look_hit h s hs hdn hn hx)
  clear h hx
  go_enter Try.func26, Try.ntmps26
  go_wp2_with fail
  refine (unhide HK).mono ?_
  rintro e w1 ⟨⟨p, c, rfl, hr⟩, hb⟩
  have hcap : x.bs.length ≤ c := by
    rcases hr.2 with ⟨h1, h2⟩ | ⟨_, _, _, h1, _, _, h3, _⟩
    · omega
    · injection h1 with _ _ h1c
      omega
  have i1 : ¬ ((x.bs.length : Int) < (m : Int)) := by omega
  have i2 : (m : Int) ≤ (c : Int) := by omega
  have i3 : (0 : Int) ≤ (m : Int) := by omega
  have R1 := hide hr; have HB := hide hb
  clear hr hb
  have hlen : (x.bs.take m).length = m := by rw [List.length_take]; omega
  have HC := clone_ok (w := w1.alloc (.cells #[.slice p x.bs.length c, .int .i64 (x.sy : Int)] 67)) p c (x.bs.take m) ((bytes_cut (unhide R1) hm).below (bal (Below.refl w1.heap.size w1) _)) (by omega)
  rw [hlen] at HC
  have HCL := hide HC
  clear HC
  go_wp2_with fail
  refine (unhide HCL).mono ?_
  rintro e w3 ⟨⟨p3, c3, rfl, hr3⟩, hb3⟩
  have R3 := hide hr3; have HB3 := hide hb3
  clear hr3 hb3
  go_wp2_with fail
  go_ret2
  have h1 := (unhide HB).size
  exact ⟨⟨p3, c3, rfl, row_base (unhide R3) (by rw [World.size_alloc]; omega)⟩, ((unhide HB).alloc h1 _).trans ((unhide HB3).mono (by rw [World.size_alloc]; omega))⟩
end Go.Proofs.Ytpeohbkigkfcgaa
