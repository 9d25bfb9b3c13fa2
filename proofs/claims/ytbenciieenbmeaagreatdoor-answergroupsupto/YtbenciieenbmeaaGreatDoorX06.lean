import Derived.Test.YtbenciieenbmeaaGreatDoorX03
import Derived.Test.YtbenciieenbmeaaGreatDoorX04
import Derived.Test.YtbenciieenbmeaaGreatDoorX05
/- the document's field (19) is the program's. -/
namespace Go.Proofs.YtbenciieenbmeaaGreatDoor
open Go Go.Shelf Go.ChangeShapes Go.WideShapes Go.ChangeAt Go.RowKit Go.Maps
set_option linter.unusedVariables false
set_option maxRecDepth 100000
set_option maxHeartbeats 2000000
theorem wV_of {c : Cl} {n : Int} {s : ByteArray} {b : Bool} (h1 : c.num = n) (h2 : c.tx = s) (h3 : (c.ty == 0) = b) : Ending.returned (wV n s b) = .returned (wV c.num c.tx (c.ty == 0)) := by rw [h1, h2, h3]
theorem fit_yes {b : Bool} (h : b = true) (c : Cl) : fit b c = c := by rw [h]; rfl
theorem fit_no {b : Bool} (h : b = false) (c : Cl) : fit b c = .no := by rw [h]; rfl
theorem rfld_any (f : Int) (h1 : 1 ≤ f) (h2 : f ≤ 14) (r : Ro) (w : World) (hr : r.acc.size < 4611686018427387904) :
    Calls Tryz.prog 19 #[.int .i64 f, r.val] w fun e w' => e = .returned (wV (fwC f r).num (fwC f r).tx ((fwC f r).ty == 0)) ∧ Below w.heap.size w w' := by
  obtain ⟨i0, i1, i2, i3, s4, acc, am, s7, s8⟩ := r
  show Calls Tryz.prog 19 #[_, .agg #[.int .i64 i0, .int .i64 i1, .int .i64 i2, .int .i64 i3, .string s4, .string acc, .int .i64 am, .string s7, .string s8]] w _
  have hr' : acc.size < 4611686018427387904 := hr
  by_cases hd : 1 ≤ i2 ∧ i2 ≤ 3652059
  · have eB : dayB i2 = true := by unfold dayB; rw [Bool.and_eq_true, decide_eq_true_iff, decide_eq_true_iff]; exact hd
    have hD := dat3_is hd.1 hd.2
    obtain ⟨⟨y, m, d⟩, hq⟩ : ∃ q, q = dat3 i2 := ⟨_, rfl⟩
    rw [← hq] at hD
    obtain ⟨k, rfl⟩ : ∃ k : Nat, i2 = k := ⟨i2.toNat, by omega⟩
    rw [Int.toNat_natCast] at hD
    simp only at hD
    cases hA : amt am with
    | false =>
      have hf : f = 1 ∨ f = 2 ∨ f = 3 ∨ f = 4 ∨ f = 5 ∨ f = 6 ∨ f = 7 ∨ f = 8 ∨ f = 9 ∨ f = 10 ∨ f = 11 ∨ f = 12 ∨ f = 13 ∨ f = 14 := by omega
      rcases hf with rfl | rfl | rfl | rfl | rfl | rfl | rfl | rfl | rfl | rfl | rfl | rfl | rfl | rfl
      · cases hn : amt i0 with
        | false =>
          refine (rf1nyn hA hD hn w).mono ?_
          rintro e w' ⟨rfl, hb⟩
          have e : fwC 1 ⟨i0, i1, (k : Int), i3, s4, acc, am, s7, s8⟩ = .no := by show fit (amt _) _ = _; rw [fit_no hn]
          exact ⟨by rw [e]; exact wV_of rfl rfl rfl, hb⟩
        | true =>
          refine (rf1nyy hA hD hn w).mono ?_
          rintro e w' ⟨rfl, hb⟩
          have e : fwC 1 ⟨i0, i1, (k : Int), i3, s4, acc, am, s7, s8⟩ = ⟨1, i0, ⟨#[]⟩⟩ := by show fit (amt _) _ = _; rw [fit_yes hn]
          exact ⟨by rw [e]; exact wV_of rfl rfl rfl, hb⟩
      · cases hn : amt i1 with
        | false =>
          refine (rf2nyn hA hD hn w).mono ?_
          rintro e w' ⟨rfl, hb⟩
          have e : fwC 2 ⟨i0, i1, (k : Int), i3, s4, acc, am, s7, s8⟩ = .no := by show fit (amt _) _ = _; rw [fit_no hn]
          exact ⟨by rw [e]; exact wV_of rfl rfl rfl, hb⟩
        | true =>
          refine (rf2nyy hA hD hn w).mono ?_
          rintro e w' ⟨rfl, hb⟩
          have e : fwC 2 ⟨i0, i1, (k : Int), i3, s4, acc, am, s7, s8⟩ = ⟨1, i1, ⟨#[]⟩⟩ := by show fit (amt _) _ = _; rw [fit_yes hn]
          exact ⟨by rw [e]; exact wV_of rfl rfl rfl, hb⟩
      · refine (rf3ny hA hD w).mono ?_
        rintro e w' ⟨rfl, hb⟩
        have e : fwC 3 ⟨i0, i1, (k : Int), i3, s4, acc, am, s7, s8⟩ = ⟨3, (k : Int), ⟨#[]⟩⟩ := by show fit (dayB _) _ = _; rw [fit_yes eB]; rfl
        exact ⟨by rw [e]; exact wV_of rfl rfl rfl, hb⟩
      · cases hn : amt i3 with
        | false =>
          refine (rf4nyn hA hD hn w).mono ?_
          rintro e w' ⟨rfl, hb⟩
          have e : fwC 4 ⟨i0, i1, (k : Int), i3, s4, acc, am, s7, s8⟩ = .no := by show fit (amt _) _ = _; rw [fit_no hn]
          exact ⟨by rw [e]; exact wV_of rfl rfl rfl, hb⟩
        | true =>
          refine (rf4nyy hA hD hn w).mono ?_
          rintro e w' ⟨rfl, hb⟩
          have e : fwC 4 ⟨i0, i1, (k : Int), i3, s4, acc, am, s7, s8⟩ = ⟨1, i3, ⟨#[]⟩⟩ := by show fit (amt _) _ = _; rw [fit_yes hn]
          exact ⟨by rw [e]; exact wV_of rfl rfl rfl, hb⟩
      · refine (rf5ny hA hD w).mono ?_
        rintro e w' ⟨rfl, hb⟩
        have e : fwC 5 ⟨i0, i1, (k : Int), i3, s4, acc, am, s7, s8⟩ = txt s4 := rfl
        exact ⟨by rw [e]; exact wV_of rfl rfl rfl, hb⟩
      · refine (rf6ny hA hD w).mono ?_
        rintro e w' ⟨rfl, hb⟩
        have e : fwC 6 ⟨i0, i1, (k : Int), i3, s4, acc, am, s7, s8⟩ = txt acc := rfl
        exact ⟨by rw [e]; exact wV_of rfl rfl rfl, hb⟩
      · refine (rf7ny hA hD w).mono ?_
        rintro e w' ⟨rfl, hb⟩
        have e : fwC 7 ⟨i0, i1, (k : Int), i3, s4, acc, am, s7, s8⟩ = .no := by show fit (amt _) _ = _; rw [fit_no hA]
        exact ⟨by rw [e]; exact wV_of rfl rfl rfl, hb⟩
      · refine (rf8ny hA hD w).mono ?_
        rintro e w' ⟨rfl, hb⟩
        have e : fwC 8 ⟨i0, i1, (k : Int), i3, s4, acc, am, s7, s8⟩ = .no := by show fit (amt _) _ = _; rw [fit_no hA]
        exact ⟨by rw [e]; exact wV_of rfl rfl rfl, hb⟩
      · refine (rf9ny hA hD w).mono ?_
        rintro e w' ⟨rfl, hb⟩
        have e : fwC 9 ⟨i0, i1, (k : Int), i3, s4, acc, am, s7, s8⟩ = .no := by show fit (amt _) _ = _; rw [fit_no hA]
        exact ⟨by rw [e]; exact wV_of rfl rfl rfl, hb⟩
      · refine (rf10ny hA hD w).mono ?_
        rintro e w' ⟨rfl, hb⟩
        have e : fwC 10 ⟨i0, i1, (k : Int), i3, s4, acc, am, s7, s8⟩ = txt s7 := rfl
        exact ⟨by rw [e]; exact wV_of rfl rfl rfl, hb⟩
      · refine (rf11ny hA hD w).mono ?_
        rintro e w' ⟨rfl, hb⟩
        have e : fwC 11 ⟨i0, i1, (k : Int), i3, s4, acc, am, s7, s8⟩ = txt s8 := rfl
        exact ⟨by rw [e]; exact wV_of rfl rfl rfl, hb⟩
      · refine (rf12ny hA hD w).mono ?_
        rintro e w' ⟨rfl, hb⟩
        have e : fwC 12 ⟨i0, i1, (k : Int), i3, s4, acc, am, s7, s8⟩ = ⟨1, 100 * (y : Int) + m, ⟨#[]⟩⟩ := by show fit (dayB _) _ = _; rw [fit_yes eB]; rw [← hq]; rfl
        exact ⟨by rw [e]; exact wV_of rfl rfl rfl, hb⟩
      · refine (rf13ny hA hD w).mono ?_
        rintro e w' ⟨rfl, hb⟩
        have e : fwC 13 ⟨i0, i1, (k : Int), i3, s4, acc, am, s7, s8⟩ = ⟨1, (y : Int), ⟨#[]⟩⟩ := by show fit (dayB _) _ = _; rw [fit_yes eB]; rw [← hq]; rfl
        exact ⟨by rw [e]; exact wV_of rfl rfl rfl, hb⟩
      · refine (rf14ny hA hD hr' w).mono ?_
        rintro e w' ⟨rfl, hb⟩
        have e : fwC 14 ⟨i0, i1, (k : Int), i3, s4, acc, am, s7, s8⟩ = txt (rootT acc) := rfl
        exact ⟨by rw [e]; exact wV_of rfl rfl rfl, hb⟩
    | true =>
      have hf : f = 1 ∨ f = 2 ∨ f = 3 ∨ f = 4 ∨ f = 5 ∨ f = 6 ∨ f = 7 ∨ f = 8 ∨ f = 9 ∨ f = 10 ∨ f = 11 ∨ f = 12 ∨ f = 13 ∨ f = 14 := by omega
      rcases hf with rfl | rfl | rfl | rfl | rfl | rfl | rfl | rfl | rfl | rfl | rfl | rfl | rfl | rfl
      · cases hn : amt i0 with
        | false =>
          refine (rf1yyn hA hD hn w).mono ?_
          rintro e w' ⟨rfl, hb⟩
          have e : fwC 1 ⟨i0, i1, (k : Int), i3, s4, acc, am, s7, s8⟩ = .no := by show fit (amt _) _ = _; rw [fit_no hn]
          exact ⟨by rw [e]; exact wV_of rfl rfl rfl, hb⟩
        | true =>
          refine (rf1yyy hA hD hn w).mono ?_
          rintro e w' ⟨rfl, hb⟩
          have e : fwC 1 ⟨i0, i1, (k : Int), i3, s4, acc, am, s7, s8⟩ = ⟨1, i0, ⟨#[]⟩⟩ := by show fit (amt _) _ = _; rw [fit_yes hn]
          exact ⟨by rw [e]; exact wV_of rfl rfl rfl, hb⟩
      · cases hn : amt i1 with
        | false =>
          refine (rf2yyn hA hD hn w).mono ?_
          rintro e w' ⟨rfl, hb⟩
          have e : fwC 2 ⟨i0, i1, (k : Int), i3, s4, acc, am, s7, s8⟩ = .no := by show fit (amt _) _ = _; rw [fit_no hn]
          exact ⟨by rw [e]; exact wV_of rfl rfl rfl, hb⟩
        | true =>
          refine (rf2yyy hA hD hn w).mono ?_
          rintro e w' ⟨rfl, hb⟩
          have e : fwC 2 ⟨i0, i1, (k : Int), i3, s4, acc, am, s7, s8⟩ = ⟨1, i1, ⟨#[]⟩⟩ := by show fit (amt _) _ = _; rw [fit_yes hn]
          exact ⟨by rw [e]; exact wV_of rfl rfl rfl, hb⟩
      · refine (rf3yy hA hD w).mono ?_
        rintro e w' ⟨rfl, hb⟩
        have e : fwC 3 ⟨i0, i1, (k : Int), i3, s4, acc, am, s7, s8⟩ = ⟨3, (k : Int), ⟨#[]⟩⟩ := by show fit (dayB _) _ = _; rw [fit_yes eB]; rfl
        exact ⟨by rw [e]; exact wV_of rfl rfl rfl, hb⟩
      · cases hn : amt i3 with
        | false =>
          refine (rf4yyn hA hD hn w).mono ?_
          rintro e w' ⟨rfl, hb⟩
          have e : fwC 4 ⟨i0, i1, (k : Int), i3, s4, acc, am, s7, s8⟩ = .no := by show fit (amt _) _ = _; rw [fit_no hn]
          exact ⟨by rw [e]; exact wV_of rfl rfl rfl, hb⟩
        | true =>
          refine (rf4yyy hA hD hn w).mono ?_
          rintro e w' ⟨rfl, hb⟩
          have e : fwC 4 ⟨i0, i1, (k : Int), i3, s4, acc, am, s7, s8⟩ = ⟨1, i3, ⟨#[]⟩⟩ := by show fit (amt _) _ = _; rw [fit_yes hn]
          exact ⟨by rw [e]; exact wV_of rfl rfl rfl, hb⟩
      · refine (rf5yy hA hD w).mono ?_
        rintro e w' ⟨rfl, hb⟩
        have e : fwC 5 ⟨i0, i1, (k : Int), i3, s4, acc, am, s7, s8⟩ = txt s4 := rfl
        exact ⟨by rw [e]; exact wV_of rfl rfl rfl, hb⟩
      · refine (rf6yy hA hD w).mono ?_
        rintro e w' ⟨rfl, hb⟩
        have e : fwC 6 ⟨i0, i1, (k : Int), i3, s4, acc, am, s7, s8⟩ = txt acc := rfl
        exact ⟨by rw [e]; exact wV_of rfl rfl rfl, hb⟩
      · refine (rf7yy hA hD w).mono ?_
        rintro e w' ⟨rfl, hb⟩
        have e : fwC 7 ⟨i0, i1, (k : Int), i3, s4, acc, am, s7, s8⟩ = ⟨5, am, ⟨#[]⟩⟩ := by show fit (amt _) _ = _; rw [fit_yes hA]; rfl
        exact ⟨by rw [e]; exact wV_of rfl rfl rfl, hb⟩
      · refine (rf8yy hA hD w).mono ?_
        rintro e w' ⟨rfl, hb⟩
        have e : fwC 8 ⟨i0, i1, (k : Int), i3, s4, acc, am, s7, s8⟩ = ⟨5, max am 0, ⟨#[]⟩⟩ := by show fit (amt _) _ = _; rw [fit_yes hA]; rfl
        exact ⟨by rw [e]; exact wV_of rfl rfl rfl, hb⟩
      · refine (rf9yy hA hD w).mono ?_
        rintro e w' ⟨rfl, hb⟩
        have e : fwC 9 ⟨i0, i1, (k : Int), i3, s4, acc, am, s7, s8⟩ = ⟨5, max (wrap64 (-am)) 0, ⟨#[]⟩⟩ := by show fit (amt _) _ = _; rw [fit_yes hA]; rfl
        exact ⟨by rw [e]; exact wV_of rfl rfl rfl, hb⟩
      · refine (rf10yy hA hD w).mono ?_
        rintro e w' ⟨rfl, hb⟩
        have e : fwC 10 ⟨i0, i1, (k : Int), i3, s4, acc, am, s7, s8⟩ = txt s7 := rfl
        exact ⟨by rw [e]; exact wV_of rfl rfl rfl, hb⟩
      · refine (rf11yy hA hD w).mono ?_
        rintro e w' ⟨rfl, hb⟩
        have e : fwC 11 ⟨i0, i1, (k : Int), i3, s4, acc, am, s7, s8⟩ = txt s8 := rfl
        exact ⟨by rw [e]; exact wV_of rfl rfl rfl, hb⟩
      · refine (rf12yy hA hD w).mono ?_
        rintro e w' ⟨rfl, hb⟩
        have e : fwC 12 ⟨i0, i1, (k : Int), i3, s4, acc, am, s7, s8⟩ = ⟨1, 100 * (y : Int) + m, ⟨#[]⟩⟩ := by show fit (dayB _) _ = _; rw [fit_yes eB]; rw [← hq]; rfl
        exact ⟨by rw [e]; exact wV_of rfl rfl rfl, hb⟩
      · refine (rf13yy hA hD w).mono ?_
        rintro e w' ⟨rfl, hb⟩
        have e : fwC 13 ⟨i0, i1, (k : Int), i3, s4, acc, am, s7, s8⟩ = ⟨1, (y : Int), ⟨#[]⟩⟩ := by show fit (dayB _) _ = _; rw [fit_yes eB]; rw [← hq]; rfl
        exact ⟨by rw [e]; exact wV_of rfl rfl rfl, hb⟩
      · refine (rf14yy hA hD hr' w).mono ?_
        rintro e w' ⟨rfl, hb⟩
        have e : fwC 14 ⟨i0, i1, (k : Int), i3, s4, acc, am, s7, s8⟩ = txt (rootT acc) := rfl
        exact ⟨by rw [e]; exact wV_of rfl rfl rfl, hb⟩
  · have eB : dayB i2 = false := by unfold dayB; rw [Bool.and_eq_false_iff, decide_eq_false_iff_not, decide_eq_false_iff_not]; omega
    have hD : i2 < 1 ∨ 1 ≤ i2 ∧ 3652059 < i2 := by omega
    cases hA : amt am with
    | false =>
      have hf : f = 1 ∨ f = 2 ∨ f = 3 ∨ f = 4 ∨ f = 5 ∨ f = 6 ∨ f = 7 ∨ f = 8 ∨ f = 9 ∨ f = 10 ∨ f = 11 ∨ f = 12 ∨ f = 13 ∨ f = 14 := by omega
      rcases hf with rfl | rfl | rfl | rfl | rfl | rfl | rfl | rfl | rfl | rfl | rfl | rfl | rfl | rfl
      · cases hn : amt i0 with
        | false =>
          refine (rf1nnn hA hD hn w).mono ?_
          rintro e w' ⟨rfl, hb⟩
          have e : fwC 1 ⟨i0, i1, i2, i3, s4, acc, am, s7, s8⟩ = .no := by show fit (amt _) _ = _; rw [fit_no hn]
          exact ⟨by rw [e]; exact wV_of rfl rfl rfl, hb⟩
        | true =>
          refine (rf1nny hA hD hn w).mono ?_
          rintro e w' ⟨rfl, hb⟩
          have e : fwC 1 ⟨i0, i1, i2, i3, s4, acc, am, s7, s8⟩ = ⟨1, i0, ⟨#[]⟩⟩ := by show fit (amt _) _ = _; rw [fit_yes hn]
          exact ⟨by rw [e]; exact wV_of rfl rfl rfl, hb⟩
      · cases hn : amt i1 with
        | false =>
          refine (rf2nnn hA hD hn w).mono ?_
          rintro e w' ⟨rfl, hb⟩
          have e : fwC 2 ⟨i0, i1, i2, i3, s4, acc, am, s7, s8⟩ = .no := by show fit (amt _) _ = _; rw [fit_no hn]
          exact ⟨by rw [e]; exact wV_of rfl rfl rfl, hb⟩
        | true =>
          refine (rf2nny hA hD hn w).mono ?_
          rintro e w' ⟨rfl, hb⟩
          have e : fwC 2 ⟨i0, i1, i2, i3, s4, acc, am, s7, s8⟩ = ⟨1, i1, ⟨#[]⟩⟩ := by show fit (amt _) _ = _; rw [fit_yes hn]
          exact ⟨by rw [e]; exact wV_of rfl rfl rfl, hb⟩
      · refine (rf3nn hA hD w).mono ?_
        rintro e w' ⟨rfl, hb⟩
        have e : fwC 3 ⟨i0, i1, i2, i3, s4, acc, am, s7, s8⟩ = .no := by show fit (dayB _) _ = _; rw [fit_no eB]
        exact ⟨by rw [e]; exact wV_of rfl rfl rfl, hb⟩
      · cases hn : amt i3 with
        | false =>
          refine (rf4nnn hA hD hn w).mono ?_
          rintro e w' ⟨rfl, hb⟩
          have e : fwC 4 ⟨i0, i1, i2, i3, s4, acc, am, s7, s8⟩ = .no := by show fit (amt _) _ = _; rw [fit_no hn]
          exact ⟨by rw [e]; exact wV_of rfl rfl rfl, hb⟩
        | true =>
          refine (rf4nny hA hD hn w).mono ?_
          rintro e w' ⟨rfl, hb⟩
          have e : fwC 4 ⟨i0, i1, i2, i3, s4, acc, am, s7, s8⟩ = ⟨1, i3, ⟨#[]⟩⟩ := by show fit (amt _) _ = _; rw [fit_yes hn]
          exact ⟨by rw [e]; exact wV_of rfl rfl rfl, hb⟩
      · refine (rf5nn hA hD w).mono ?_
        rintro e w' ⟨rfl, hb⟩
        have e : fwC 5 ⟨i0, i1, i2, i3, s4, acc, am, s7, s8⟩ = txt s4 := rfl
        exact ⟨by rw [e]; exact wV_of rfl rfl rfl, hb⟩
      · refine (rf6nn hA hD w).mono ?_
        rintro e w' ⟨rfl, hb⟩
        have e : fwC 6 ⟨i0, i1, i2, i3, s4, acc, am, s7, s8⟩ = txt acc := rfl
        exact ⟨by rw [e]; exact wV_of rfl rfl rfl, hb⟩
      · refine (rf7nn hA hD w).mono ?_
        rintro e w' ⟨rfl, hb⟩
        have e : fwC 7 ⟨i0, i1, i2, i3, s4, acc, am, s7, s8⟩ = .no := by show fit (amt _) _ = _; rw [fit_no hA]
        exact ⟨by rw [e]; exact wV_of rfl rfl rfl, hb⟩
      · refine (rf8nn hA hD w).mono ?_
        rintro e w' ⟨rfl, hb⟩
        have e : fwC 8 ⟨i0, i1, i2, i3, s4, acc, am, s7, s8⟩ = .no := by show fit (amt _) _ = _; rw [fit_no hA]
        exact ⟨by rw [e]; exact wV_of rfl rfl rfl, hb⟩
      · refine (rf9nn hA hD w).mono ?_
        rintro e w' ⟨rfl, hb⟩
        have e : fwC 9 ⟨i0, i1, i2, i3, s4, acc, am, s7, s8⟩ = .no := by show fit (amt _) _ = _; rw [fit_no hA]
        exact ⟨by rw [e]; exact wV_of rfl rfl rfl, hb⟩
      · refine (rf10nn hA hD w).mono ?_
        rintro e w' ⟨rfl, hb⟩
        have e : fwC 10 ⟨i0, i1, i2, i3, s4, acc, am, s7, s8⟩ = txt s7 := rfl
        exact ⟨by rw [e]; exact wV_of rfl rfl rfl, hb⟩
      · refine (rf11nn hA hD w).mono ?_
        rintro e w' ⟨rfl, hb⟩
        have e : fwC 11 ⟨i0, i1, i2, i3, s4, acc, am, s7, s8⟩ = txt s8 := rfl
        exact ⟨by rw [e]; exact wV_of rfl rfl rfl, hb⟩
      · refine (rf12nn hA hD w).mono ?_
        rintro e w' ⟨rfl, hb⟩
        have e : fwC 12 ⟨i0, i1, i2, i3, s4, acc, am, s7, s8⟩ = .no := by show fit (dayB _) _ = _; rw [fit_no eB]
        exact ⟨by rw [e]; exact wV_of rfl rfl rfl, hb⟩
      · refine (rf13nn hA hD w).mono ?_
        rintro e w' ⟨rfl, hb⟩
        have e : fwC 13 ⟨i0, i1, i2, i3, s4, acc, am, s7, s8⟩ = .no := by show fit (dayB _) _ = _; rw [fit_no eB]
        exact ⟨by rw [e]; exact wV_of rfl rfl rfl, hb⟩
      · refine (rf14nn hA hD hr' w).mono ?_
        rintro e w' ⟨rfl, hb⟩
        have e : fwC 14 ⟨i0, i1, i2, i3, s4, acc, am, s7, s8⟩ = txt (rootT acc) := rfl
        exact ⟨by rw [e]; exact wV_of rfl rfl rfl, hb⟩
    | true =>
      have hf : f = 1 ∨ f = 2 ∨ f = 3 ∨ f = 4 ∨ f = 5 ∨ f = 6 ∨ f = 7 ∨ f = 8 ∨ f = 9 ∨ f = 10 ∨ f = 11 ∨ f = 12 ∨ f = 13 ∨ f = 14 := by omega
      rcases hf with rfl | rfl | rfl | rfl | rfl | rfl | rfl | rfl | rfl | rfl | rfl | rfl | rfl | rfl
      · cases hn : amt i0 with
        | false =>
          refine (rf1ynn hA hD hn w).mono ?_
          rintro e w' ⟨rfl, hb⟩
          have e : fwC 1 ⟨i0, i1, i2, i3, s4, acc, am, s7, s8⟩ = .no := by show fit (amt _) _ = _; rw [fit_no hn]
          exact ⟨by rw [e]; exact wV_of rfl rfl rfl, hb⟩
        | true =>
          refine (rf1yny hA hD hn w).mono ?_
          rintro e w' ⟨rfl, hb⟩
          have e : fwC 1 ⟨i0, i1, i2, i3, s4, acc, am, s7, s8⟩ = ⟨1, i0, ⟨#[]⟩⟩ := by show fit (amt _) _ = _; rw [fit_yes hn]
          exact ⟨by rw [e]; exact wV_of rfl rfl rfl, hb⟩
      · cases hn : amt i1 with
        | false =>
          refine (rf2ynn hA hD hn w).mono ?_
          rintro e w' ⟨rfl, hb⟩
          have e : fwC 2 ⟨i0, i1, i2, i3, s4, acc, am, s7, s8⟩ = .no := by show fit (amt _) _ = _; rw [fit_no hn]
          exact ⟨by rw [e]; exact wV_of rfl rfl rfl, hb⟩
        | true =>
          refine (rf2yny hA hD hn w).mono ?_
          rintro e w' ⟨rfl, hb⟩
          have e : fwC 2 ⟨i0, i1, i2, i3, s4, acc, am, s7, s8⟩ = ⟨1, i1, ⟨#[]⟩⟩ := by show fit (amt _) _ = _; rw [fit_yes hn]
          exact ⟨by rw [e]; exact wV_of rfl rfl rfl, hb⟩
      · refine (rf3yn hA hD w).mono ?_
        rintro e w' ⟨rfl, hb⟩
        have e : fwC 3 ⟨i0, i1, i2, i3, s4, acc, am, s7, s8⟩ = .no := by show fit (dayB _) _ = _; rw [fit_no eB]
        exact ⟨by rw [e]; exact wV_of rfl rfl rfl, hb⟩
      · cases hn : amt i3 with
        | false =>
          refine (rf4ynn hA hD hn w).mono ?_
          rintro e w' ⟨rfl, hb⟩
          have e : fwC 4 ⟨i0, i1, i2, i3, s4, acc, am, s7, s8⟩ = .no := by show fit (amt _) _ = _; rw [fit_no hn]
          exact ⟨by rw [e]; exact wV_of rfl rfl rfl, hb⟩
        | true =>
          refine (rf4yny hA hD hn w).mono ?_
          rintro e w' ⟨rfl, hb⟩
          have e : fwC 4 ⟨i0, i1, i2, i3, s4, acc, am, s7, s8⟩ = ⟨1, i3, ⟨#[]⟩⟩ := by show fit (amt _) _ = _; rw [fit_yes hn]
          exact ⟨by rw [e]; exact wV_of rfl rfl rfl, hb⟩
      · refine (rf5yn hA hD w).mono ?_
        rintro e w' ⟨rfl, hb⟩
        have e : fwC 5 ⟨i0, i1, i2, i3, s4, acc, am, s7, s8⟩ = txt s4 := rfl
        exact ⟨by rw [e]; exact wV_of rfl rfl rfl, hb⟩
      · refine (rf6yn hA hD w).mono ?_
        rintro e w' ⟨rfl, hb⟩
        have e : fwC 6 ⟨i0, i1, i2, i3, s4, acc, am, s7, s8⟩ = txt acc := rfl
        exact ⟨by rw [e]; exact wV_of rfl rfl rfl, hb⟩
      · refine (rf7yn hA hD w).mono ?_
        rintro e w' ⟨rfl, hb⟩
        have e : fwC 7 ⟨i0, i1, i2, i3, s4, acc, am, s7, s8⟩ = ⟨5, am, ⟨#[]⟩⟩ := by show fit (amt _) _ = _; rw [fit_yes hA]; rfl
        exact ⟨by rw [e]; exact wV_of rfl rfl rfl, hb⟩
      · refine (rf8yn hA hD w).mono ?_
        rintro e w' ⟨rfl, hb⟩
        have e : fwC 8 ⟨i0, i1, i2, i3, s4, acc, am, s7, s8⟩ = ⟨5, max am 0, ⟨#[]⟩⟩ := by show fit (amt _) _ = _; rw [fit_yes hA]; rfl
        exact ⟨by rw [e]; exact wV_of rfl rfl rfl, hb⟩
      · refine (rf9yn hA hD w).mono ?_
        rintro e w' ⟨rfl, hb⟩
        have e : fwC 9 ⟨i0, i1, i2, i3, s4, acc, am, s7, s8⟩ = ⟨5, max (wrap64 (-am)) 0, ⟨#[]⟩⟩ := by show fit (amt _) _ = _; rw [fit_yes hA]; rfl
        exact ⟨by rw [e]; exact wV_of rfl rfl rfl, hb⟩
      · refine (rf10yn hA hD w).mono ?_
        rintro e w' ⟨rfl, hb⟩
        have e : fwC 10 ⟨i0, i1, i2, i3, s4, acc, am, s7, s8⟩ = txt s7 := rfl
        exact ⟨by rw [e]; exact wV_of rfl rfl rfl, hb⟩
      · refine (rf11yn hA hD w).mono ?_
        rintro e w' ⟨rfl, hb⟩
        have e : fwC 11 ⟨i0, i1, i2, i3, s4, acc, am, s7, s8⟩ = txt s8 := rfl
        exact ⟨by rw [e]; exact wV_of rfl rfl rfl, hb⟩
      · refine (rf12yn hA hD w).mono ?_
        rintro e w' ⟨rfl, hb⟩
        have e : fwC 12 ⟨i0, i1, i2, i3, s4, acc, am, s7, s8⟩ = .no := by show fit (dayB _) _ = _; rw [fit_no eB]
        exact ⟨by rw [e]; exact wV_of rfl rfl rfl, hb⟩
      · refine (rf13yn hA hD w).mono ?_
        rintro e w' ⟨rfl, hb⟩
        have e : fwC 13 ⟨i0, i1, i2, i3, s4, acc, am, s7, s8⟩ = .no := by show fit (dayB _) _ = _; rw [fit_no eB]
        exact ⟨by rw [e]; exact wV_of rfl rfl rfl, hb⟩
      · refine (rf14yn hA hD hr' w).mono ?_
        rintro e w' ⟨rfl, hb⟩
        have e : fwC 14 ⟨i0, i1, i2, i3, s4, acc, am, s7, s8⟩ = txt (rootT acc) := rfl
        exact ⟨by rw [e]; exact wV_of rfl rfl rfl, hb⟩
end Go.Proofs.YtbenciieenbmeaaGreatDoor
