import Derived.Test.YtbkdaoicnobllaaTRefJ

namespace Go.Proofs.Ytbkdaoicnobllaa
open Go.RowKit

set_option maxRecDepth 100000 in
set_option maxHeartbeats 1000000 in
theorem next0 (c : Nat) (w : World) : Calls Try.prog 44 #[.int .i64 0, .int .u8 (c : Int)] w fun e w' => e = .returned (.int .i64 ((nextS 0 c : Nat) : Int)) ∧ w' = w := by
  by_cases h43 : c = 43
  ·
    have b43 : ((c : Int) == 43) = true := by rw [h43]; rfl
    have b45 : ((c : Int) == 45) = false := by rw [h43]; rfl
    have b48 : ((c : Int) == 48) = false := by rw [h43]; rfl
    have b46 : ((c : Int) == 46) = false := by rw [h43]; rfl
    have b105 : ((c : Int) == 105) = false := by rw [h43]; rfl
    have b110 : ((c : Int) == 110) = false := by rw [h43]; rfl
    have hd : isDig c = false := by rw [h43]; rfl
    have HK := hid h43
    clear h43
    go_enter Try.func44, Try.ntmps44
    go_wp2_with (first | (go_at_call 71; refine (isDigit_b c _).mono ?_; rintro e w' ⟨rfl, rfl⟩) | (go_at_call 72; refine (isHex_b c _).mono ?_; rintro e w' ⟨rfl, rfl⟩) | (go_at_call 73; refine (nh0 c _ _ _ _).mono ?_; rintro e w' ⟨rfl, rfl⟩))
    go_ret
    exact ⟨ret_int (by rw [HK.out]; rfl), rfl⟩
  · have b43 : ((c : Int) == 43) = false := by rw [beq_eq_false_iff_ne]; omega
    by_cases h45 : c = 45
    ·
      have b43 : ((c : Int) == 43) = false := by rw [h45]; rfl
      have b45 : ((c : Int) == 45) = true := by rw [h45]; rfl
      have b48 : ((c : Int) == 48) = false := by rw [h45]; rfl
      have b46 : ((c : Int) == 46) = false := by rw [h45]; rfl
      have b105 : ((c : Int) == 105) = false := by rw [h45]; rfl
      have b110 : ((c : Int) == 110) = false := by rw [h45]; rfl
      have hd : isDig c = false := by rw [h45]; rfl
      have HK := hid h45
      clear h45
      go_enter Try.func44, Try.ntmps44
      go_wp2_with (first | (go_at_call 71; refine (isDigit_b c _).mono ?_; rintro e w' ⟨rfl, rfl⟩) | (go_at_call 72; refine (isHex_b c _).mono ?_; rintro e w' ⟨rfl, rfl⟩) | (go_at_call 73; refine (nh0 c _ _ _ _).mono ?_; rintro e w' ⟨rfl, rfl⟩))
      go_ret
      exact ⟨ret_int (by rw [HK.out]; rfl), rfl⟩
    · have b45 : ((c : Int) == 45) = false := by rw [beq_eq_false_iff_ne]; omega
      have hsg : sgn c = false := by unfold sgn; simp [h43, h45]
      by_cases h48 : c = 48
      ·
        have b43 : ((c : Int) == 43) = false := by rw [h48]; rfl
        have b45 : ((c : Int) == 45) = false := by rw [h48]; rfl
        have b48 : ((c : Int) == 48) = true := by rw [h48]; rfl
        have b46 : ((c : Int) == 46) = false := by rw [h48]; rfl
        have b105 : ((c : Int) == 105) = false := by rw [h48]; rfl
        have b110 : ((c : Int) == 110) = false := by rw [h48]; rfl
        have hd : isDig c = true := by rw [h48]; rfl
        have HK := hid h48
        clear h48
        go_enter Try.func44, Try.ntmps44
        go_wp2_with (first | (go_at_call 71; refine (isDigit_b c _).mono ?_; rintro e w' ⟨rfl, rfl⟩) | (go_at_call 72; refine (isHex_b c _).mono ?_; rintro e w' ⟨rfl, rfl⟩) | (go_at_call 73; refine (nh0 c _ _ _ _).mono ?_; rintro e w' ⟨rfl, rfl⟩))
        go_ret
        exact ⟨ret_int (by rw [HK.out]; rfl), rfl⟩
      · have b48 : ((c : Int) == 48) = false := by rw [beq_eq_false_iff_ne]; omega
        cases hd : isDig c with
        | true =>
          go_enter Try.func44, Try.ntmps44
          go_wp2_with (first | (go_at_call 71; refine (isDigit_b c _).mono ?_; rintro e w' ⟨rfl, rfl⟩) | (go_at_call 72; refine (isHex_b c _).mono ?_; rintro e w' ⟨rfl, rfl⟩) | (go_at_call 73; refine (nh0 c _ _ _ _).mono ?_; rintro e w' ⟨rfl, rfl⟩))
          go_ret
          exact ⟨ret_int (by unfold nextS; (try unfold beginS); (try unfold nhS); simp [*]), rfl⟩
        | false =>
          by_cases h46 : c = 46
          ·
            have b43 : ((c : Int) == 43) = false := by rw [h46]; rfl
            have b45 : ((c : Int) == 45) = false := by rw [h46]; rfl
            have b48 : ((c : Int) == 48) = false := by rw [h46]; rfl
            have b46 : ((c : Int) == 46) = true := by rw [h46]; rfl
            have b105 : ((c : Int) == 105) = false := by rw [h46]; rfl
            have b110 : ((c : Int) == 110) = false := by rw [h46]; rfl
            have hd : isDig c = false := by rw [h46]; rfl
            have HK := hid h46
            clear h46
            go_enter Try.func44, Try.ntmps44
            go_wp2_with (first | (go_at_call 71; refine (isDigit_b c _).mono ?_; rintro e w' ⟨rfl, rfl⟩) | (go_at_call 72; refine (isHex_b c _).mono ?_; rintro e w' ⟨rfl, rfl⟩) | (go_at_call 73; refine (nh0 c _ _ _ _).mono ?_; rintro e w' ⟨rfl, rfl⟩))
            go_ret
            exact ⟨ret_int (by rw [HK.out]; rfl), rfl⟩
          · have b46 : ((c : Int) == 46) = false := by rw [beq_eq_false_iff_ne]; omega
            by_cases h105 : c = 105
            ·
              have b43 : ((c : Int) == 43) = false := by rw [h105]; rfl
              have b45 : ((c : Int) == 45) = false := by rw [h105]; rfl
              have b48 : ((c : Int) == 48) = false := by rw [h105]; rfl
              have b46 : ((c : Int) == 46) = false := by rw [h105]; rfl
              have b105 : ((c : Int) == 105) = true := by rw [h105]; rfl
              have b110 : ((c : Int) == 110) = false := by rw [h105]; rfl
              have hd : isDig c = false := by rw [h105]; rfl
              have HK := hid h105
              clear h105
              go_enter Try.func44, Try.ntmps44
              go_wp2_with (first | (go_at_call 71; refine (isDigit_b c _).mono ?_; rintro e w' ⟨rfl, rfl⟩) | (go_at_call 72; refine (isHex_b c _).mono ?_; rintro e w' ⟨rfl, rfl⟩) | (go_at_call 73; refine (nh0 c _ _ _ _).mono ?_; rintro e w' ⟨rfl, rfl⟩))
              go_ret
              exact ⟨ret_int (by rw [HK.out]; rfl), rfl⟩
            · have b105 : ((c : Int) == 105) = false := by rw [beq_eq_false_iff_ne]; omega
              by_cases h110 : c = 110
              ·
                have b43 : ((c : Int) == 43) = false := by rw [h110]; rfl
                have b45 : ((c : Int) == 45) = false := by rw [h110]; rfl
                have b48 : ((c : Int) == 48) = false := by rw [h110]; rfl
                have b46 : ((c : Int) == 46) = false := by rw [h110]; rfl
                have b105 : ((c : Int) == 105) = false := by rw [h110]; rfl
                have b110 : ((c : Int) == 110) = true := by rw [h110]; rfl
                have hd : isDig c = false := by rw [h110]; rfl
                have HK := hid h110
                clear h110
                go_enter Try.func44, Try.ntmps44
                go_wp2_with (first | (go_at_call 71; refine (isDigit_b c _).mono ?_; rintro e w' ⟨rfl, rfl⟩) | (go_at_call 72; refine (isHex_b c _).mono ?_; rintro e w' ⟨rfl, rfl⟩) | (go_at_call 73; refine (nh0 c _ _ _ _).mono ?_; rintro e w' ⟨rfl, rfl⟩))
                go_ret
                exact ⟨ret_int (by rw [HK.out]; rfl), rfl⟩
              · have b110 : ((c : Int) == 110) = false := by rw [beq_eq_false_iff_ne]; omega
                go_enter Try.func44, Try.ntmps44
                go_wp2_with (first | (go_at_call 71; refine (isDigit_b c _).mono ?_; rintro e w' ⟨rfl, rfl⟩) | (go_at_call 72; refine (isHex_b c _).mono ?_; rintro e w' ⟨rfl, rfl⟩) | (go_at_call 73; refine (nh0 c _ _ _ _).mono ?_; rintro e w' ⟨rfl, rfl⟩))
                go_ret
                exact ⟨ret_int (by unfold nextS; (try unfold beginS); (try unfold nhS); simp [*]), rfl⟩

set_option maxRecDepth 100000 in
set_option maxHeartbeats 1000000 in
theorem next1 (c : Nat) (w : World) : Calls Try.prog 44 #[.int .i64 1, .int .u8 (c : Int)] w fun e w' => e = .returned (.int .i64 ((nextS 1 c : Nat) : Int)) ∧ w' = w := by
  by_cases h43 : c = 43
  ·
    have b43 : ((c : Int) == 43) = true := by rw [h43]; rfl
    have b45 : ((c : Int) == 45) = false := by rw [h43]; rfl
    have b48 : ((c : Int) == 48) = false := by rw [h43]; rfl
    have b46 : ((c : Int) == 46) = false := by rw [h43]; rfl
    have b105 : ((c : Int) == 105) = false := by rw [h43]; rfl
    have b110 : ((c : Int) == 110) = false := by rw [h43]; rfl
    have hd : isDig c = false := by rw [h43]; rfl
    have HK := hid h43
    clear h43
    go_enter Try.func44, Try.ntmps44
    go_wp2_with (first | (go_at_call 71; refine (isDigit_b c _).mono ?_; rintro e w' ⟨rfl, rfl⟩) | (go_at_call 72; refine (isHex_b c _).mono ?_; rintro e w' ⟨rfl, rfl⟩) | (go_at_call 73; refine (nh1 c _ _ _ _).mono ?_; rintro e w' ⟨rfl, rfl⟩))
    go_ret
    exact ⟨ret_int (by rw [HK.out]; rfl), rfl⟩
  · have b43 : ((c : Int) == 43) = false := by rw [beq_eq_false_iff_ne]; omega
    by_cases h45 : c = 45
    ·
      have b43 : ((c : Int) == 43) = false := by rw [h45]; rfl
      have b45 : ((c : Int) == 45) = true := by rw [h45]; rfl
      have b48 : ((c : Int) == 48) = false := by rw [h45]; rfl
      have b46 : ((c : Int) == 46) = false := by rw [h45]; rfl
      have b105 : ((c : Int) == 105) = false := by rw [h45]; rfl
      have b110 : ((c : Int) == 110) = false := by rw [h45]; rfl
      have hd : isDig c = false := by rw [h45]; rfl
      have HK := hid h45
      clear h45
      go_enter Try.func44, Try.ntmps44
      go_wp2_with (first | (go_at_call 71; refine (isDigit_b c _).mono ?_; rintro e w' ⟨rfl, rfl⟩) | (go_at_call 72; refine (isHex_b c _).mono ?_; rintro e w' ⟨rfl, rfl⟩) | (go_at_call 73; refine (nh1 c _ _ _ _).mono ?_; rintro e w' ⟨rfl, rfl⟩))
      go_ret
      exact ⟨ret_int (by rw [HK.out]; rfl), rfl⟩
    · have b45 : ((c : Int) == 45) = false := by rw [beq_eq_false_iff_ne]; omega
      have hsg : sgn c = false := by unfold sgn; simp [h43, h45]
      by_cases h48 : c = 48
      ·
        have b43 : ((c : Int) == 43) = false := by rw [h48]; rfl
        have b45 : ((c : Int) == 45) = false := by rw [h48]; rfl
        have b48 : ((c : Int) == 48) = true := by rw [h48]; rfl
        have b46 : ((c : Int) == 46) = false := by rw [h48]; rfl
        have b105 : ((c : Int) == 105) = false := by rw [h48]; rfl
        have b110 : ((c : Int) == 110) = false := by rw [h48]; rfl
        have hd : isDig c = true := by rw [h48]; rfl
        have HK := hid h48
        clear h48
        go_enter Try.func44, Try.ntmps44
        go_wp2_with (first | (go_at_call 71; refine (isDigit_b c _).mono ?_; rintro e w' ⟨rfl, rfl⟩) | (go_at_call 72; refine (isHex_b c _).mono ?_; rintro e w' ⟨rfl, rfl⟩) | (go_at_call 73; refine (nh1 c _ _ _ _).mono ?_; rintro e w' ⟨rfl, rfl⟩))
        go_ret
        exact ⟨ret_int (by rw [HK.out]; rfl), rfl⟩
      · have b48 : ((c : Int) == 48) = false := by rw [beq_eq_false_iff_ne]; omega
        cases hd : isDig c with
        | true =>
          go_enter Try.func44, Try.ntmps44
          go_wp2_with (first | (go_at_call 71; refine (isDigit_b c _).mono ?_; rintro e w' ⟨rfl, rfl⟩) | (go_at_call 72; refine (isHex_b c _).mono ?_; rintro e w' ⟨rfl, rfl⟩) | (go_at_call 73; refine (nh1 c _ _ _ _).mono ?_; rintro e w' ⟨rfl, rfl⟩))
          go_ret
          exact ⟨ret_int (by unfold nextS; (try unfold beginS); (try unfold nhS); simp [*]), rfl⟩
        | false =>
          by_cases h46 : c = 46
          ·
            have b43 : ((c : Int) == 43) = false := by rw [h46]; rfl
            have b45 : ((c : Int) == 45) = false := by rw [h46]; rfl
            have b48 : ((c : Int) == 48) = false := by rw [h46]; rfl
            have b46 : ((c : Int) == 46) = true := by rw [h46]; rfl
            have b105 : ((c : Int) == 105) = false := by rw [h46]; rfl
            have b110 : ((c : Int) == 110) = false := by rw [h46]; rfl
            have hd : isDig c = false := by rw [h46]; rfl
            have HK := hid h46
            clear h46
            go_enter Try.func44, Try.ntmps44
            go_wp2_with (first | (go_at_call 71; refine (isDigit_b c _).mono ?_; rintro e w' ⟨rfl, rfl⟩) | (go_at_call 72; refine (isHex_b c _).mono ?_; rintro e w' ⟨rfl, rfl⟩) | (go_at_call 73; refine (nh1 c _ _ _ _).mono ?_; rintro e w' ⟨rfl, rfl⟩))
            go_ret
            exact ⟨ret_int (by rw [HK.out]; rfl), rfl⟩
          · have b46 : ((c : Int) == 46) = false := by rw [beq_eq_false_iff_ne]; omega
            by_cases h105 : c = 105
            ·
              have b43 : ((c : Int) == 43) = false := by rw [h105]; rfl
              have b45 : ((c : Int) == 45) = false := by rw [h105]; rfl
              have b48 : ((c : Int) == 48) = false := by rw [h105]; rfl
              have b46 : ((c : Int) == 46) = false := by rw [h105]; rfl
              have b105 : ((c : Int) == 105) = true := by rw [h105]; rfl
              have b110 : ((c : Int) == 110) = false := by rw [h105]; rfl
              have hd : isDig c = false := by rw [h105]; rfl
              have HK := hid h105
              clear h105
              go_enter Try.func44, Try.ntmps44
              go_wp2_with (first | (go_at_call 71; refine (isDigit_b c _).mono ?_; rintro e w' ⟨rfl, rfl⟩) | (go_at_call 72; refine (isHex_b c _).mono ?_; rintro e w' ⟨rfl, rfl⟩) | (go_at_call 73; refine (nh1 c _ _ _ _).mono ?_; rintro e w' ⟨rfl, rfl⟩))
              go_ret
              exact ⟨ret_int (by rw [HK.out]; rfl), rfl⟩
            · have b105 : ((c : Int) == 105) = false := by rw [beq_eq_false_iff_ne]; omega
              by_cases h110 : c = 110
              ·
                have b43 : ((c : Int) == 43) = false := by rw [h110]; rfl
                have b45 : ((c : Int) == 45) = false := by rw [h110]; rfl
                have b48 : ((c : Int) == 48) = false := by rw [h110]; rfl
                have b46 : ((c : Int) == 46) = false := by rw [h110]; rfl
                have b105 : ((c : Int) == 105) = false := by rw [h110]; rfl
                have b110 : ((c : Int) == 110) = true := by rw [h110]; rfl
                have hd : isDig c = false := by rw [h110]; rfl
                have HK := hid h110
                clear h110
                go_enter Try.func44, Try.ntmps44
                go_wp2_with (first | (go_at_call 71; refine (isDigit_b c _).mono ?_; rintro e w' ⟨rfl, rfl⟩) | (go_at_call 72; refine (isHex_b c _).mono ?_; rintro e w' ⟨rfl, rfl⟩) | (go_at_call 73; refine (nh1 c _ _ _ _).mono ?_; rintro e w' ⟨rfl, rfl⟩))
                go_ret
                exact ⟨ret_int (by rw [HK.out]; rfl), rfl⟩
              · have b110 : ((c : Int) == 110) = false := by rw [beq_eq_false_iff_ne]; omega
                go_enter Try.func44, Try.ntmps44
                go_wp2_with (first | (go_at_call 71; refine (isDigit_b c _).mono ?_; rintro e w' ⟨rfl, rfl⟩) | (go_at_call 72; refine (isHex_b c _).mono ?_; rintro e w' ⟨rfl, rfl⟩) | (go_at_call 73; refine (nh1 c _ _ _ _).mono ?_; rintro e w' ⟨rfl, rfl⟩))
                go_ret
                exact ⟨ret_int (by unfold nextS; (try unfold beginS); (try unfold nhS); simp [*]), rfl⟩

set_option maxRecDepth 100000 in
set_option maxHeartbeats 1000000 in
theorem next2 (c : Nat) (w : World) : Calls Try.prog 44 #[.int .i64 2, .int .u8 (c : Int)] w fun e w' => e = .returned (.int .i64 ((nextS 2 c : Nat) : Int)) ∧ w' = w := by
  by_cases h43 : c = 43
  ·
    have b43 : ((c : Int) == 43) = true := by rw [h43]; rfl
    have b45 : ((c : Int) == 45) = false := by rw [h43]; rfl
    have b120 : ((c : Int) == 120) = false := by rw [h43]; rfl
    have b46 : ((c : Int) == 46) = false := by rw [h43]; rfl
    have b101 : ((c : Int) == 101) = false := by rw [h43]; rfl
    have hd : isDig c = false := by rw [h43]; rfl
    have HK := hid h43
    clear h43
    go_enter Try.func44, Try.ntmps44
    go_wp2_with (first | (go_at_call 71; refine (isDigit_b c _).mono ?_; rintro e w' ⟨rfl, rfl⟩) | (go_at_call 72; refine (isHex_b c _).mono ?_; rintro e w' ⟨rfl, rfl⟩) | (go_at_call 73; refine (nh2 c _ _ _ _).mono ?_; rintro e w' ⟨rfl, rfl⟩))
    go_ret
    exact ⟨ret_int (by rw [HK.out]; rfl), rfl⟩
  · have b43 : ((c : Int) == 43) = false := by rw [beq_eq_false_iff_ne]; omega
    by_cases h45 : c = 45
    ·
      have b43 : ((c : Int) == 43) = false := by rw [h45]; rfl
      have b45 : ((c : Int) == 45) = true := by rw [h45]; rfl
      have b120 : ((c : Int) == 120) = false := by rw [h45]; rfl
      have b46 : ((c : Int) == 46) = false := by rw [h45]; rfl
      have b101 : ((c : Int) == 101) = false := by rw [h45]; rfl
      have hd : isDig c = false := by rw [h45]; rfl
      have HK := hid h45
      clear h45
      go_enter Try.func44, Try.ntmps44
      go_wp2_with (first | (go_at_call 71; refine (isDigit_b c _).mono ?_; rintro e w' ⟨rfl, rfl⟩) | (go_at_call 72; refine (isHex_b c _).mono ?_; rintro e w' ⟨rfl, rfl⟩) | (go_at_call 73; refine (nh2 c _ _ _ _).mono ?_; rintro e w' ⟨rfl, rfl⟩))
      go_ret
      exact ⟨ret_int (by rw [HK.out]; rfl), rfl⟩
    · have b45 : ((c : Int) == 45) = false := by rw [beq_eq_false_iff_ne]; omega
      have hsg : sgn c = false := by unfold sgn; simp [h43, h45]
      by_cases h120 : c = 120
      ·
        have b43 : ((c : Int) == 43) = false := by rw [h120]; rfl
        have b45 : ((c : Int) == 45) = false := by rw [h120]; rfl
        have b120 : ((c : Int) == 120) = true := by rw [h120]; rfl
        have b46 : ((c : Int) == 46) = false := by rw [h120]; rfl
        have b101 : ((c : Int) == 101) = false := by rw [h120]; rfl
        have hd : isDig c = false := by rw [h120]; rfl
        have HK := hid h120
        clear h120
        go_enter Try.func44, Try.ntmps44
        go_wp2_with (first | (go_at_call 71; refine (isDigit_b c _).mono ?_; rintro e w' ⟨rfl, rfl⟩) | (go_at_call 72; refine (isHex_b c _).mono ?_; rintro e w' ⟨rfl, rfl⟩) | (go_at_call 73; refine (nh2 c _ _ _ _).mono ?_; rintro e w' ⟨rfl, rfl⟩))
        go_ret
        exact ⟨ret_int (by rw [HK.out]; rfl), rfl⟩
      · have b120 : ((c : Int) == 120) = false := by rw [beq_eq_false_iff_ne]; omega
        cases hd : isDig c with
        | true =>
          go_enter Try.func44, Try.ntmps44
          go_wp2_with (first | (go_at_call 71; refine (isDigit_b c _).mono ?_; rintro e w' ⟨rfl, rfl⟩) | (go_at_call 72; refine (isHex_b c _).mono ?_; rintro e w' ⟨rfl, rfl⟩) | (go_at_call 73; refine (nh2 c _ _ _ _).mono ?_; rintro e w' ⟨rfl, rfl⟩))
          go_ret
          exact ⟨ret_int (by unfold nextS; (try unfold beginS); (try unfold nhS); simp [*]), rfl⟩
        | false =>
          by_cases h46 : c = 46
          ·
            have b43 : ((c : Int) == 43) = false := by rw [h46]; rfl
            have b45 : ((c : Int) == 45) = false := by rw [h46]; rfl
            have b120 : ((c : Int) == 120) = false := by rw [h46]; rfl
            have b46 : ((c : Int) == 46) = true := by rw [h46]; rfl
            have b101 : ((c : Int) == 101) = false := by rw [h46]; rfl
            have hd : isDig c = false := by rw [h46]; rfl
            have HK := hid h46
            clear h46
            go_enter Try.func44, Try.ntmps44
            go_wp2_with (first | (go_at_call 71; refine (isDigit_b c _).mono ?_; rintro e w' ⟨rfl, rfl⟩) | (go_at_call 72; refine (isHex_b c _).mono ?_; rintro e w' ⟨rfl, rfl⟩) | (go_at_call 73; refine (nh2 c _ _ _ _).mono ?_; rintro e w' ⟨rfl, rfl⟩))
            go_ret
            exact ⟨ret_int (by rw [HK.out]; rfl), rfl⟩
          · have b46 : ((c : Int) == 46) = false := by rw [beq_eq_false_iff_ne]; omega
            by_cases h101 : c = 101
            ·
              have b43 : ((c : Int) == 43) = false := by rw [h101]; rfl
              have b45 : ((c : Int) == 45) = false := by rw [h101]; rfl
              have b120 : ((c : Int) == 120) = false := by rw [h101]; rfl
              have b46 : ((c : Int) == 46) = false := by rw [h101]; rfl
              have b101 : ((c : Int) == 101) = true := by rw [h101]; rfl
              have hd : isDig c = false := by rw [h101]; rfl
              have HK := hid h101
              clear h101
              go_enter Try.func44, Try.ntmps44
              go_wp2_with (first | (go_at_call 71; refine (isDigit_b c _).mono ?_; rintro e w' ⟨rfl, rfl⟩) | (go_at_call 72; refine (isHex_b c _).mono ?_; rintro e w' ⟨rfl, rfl⟩) | (go_at_call 73; refine (nh2 c _ _ _ _).mono ?_; rintro e w' ⟨rfl, rfl⟩))
              go_ret
              exact ⟨ret_int (by rw [HK.out]; rfl), rfl⟩
            · have b101 : ((c : Int) == 101) = false := by rw [beq_eq_false_iff_ne]; omega
              go_enter Try.func44, Try.ntmps44
              go_wp2_with (first | (go_at_call 71; refine (isDigit_b c _).mono ?_; rintro e w' ⟨rfl, rfl⟩) | (go_at_call 72; refine (isHex_b c _).mono ?_; rintro e w' ⟨rfl, rfl⟩) | (go_at_call 73; refine (nh2 c _ _ _ _).mono ?_; rintro e w' ⟨rfl, rfl⟩))
              go_ret
              exact ⟨ret_int (by unfold nextS; (try unfold beginS); (try unfold nhS); simp [*]), rfl⟩

set_option maxRecDepth 100000 in
set_option maxHeartbeats 1000000 in
theorem next3 (c : Nat) (w : World) : Calls Try.prog 44 #[.int .i64 3, .int .u8 (c : Int)] w fun e w' => e = .returned (.int .i64 ((nextS 3 c : Nat) : Int)) ∧ w' = w := by
  by_cases h43 : c = 43
  ·
    have b43 : ((c : Int) == 43) = true := by rw [h43]; rfl
    have b45 : ((c : Int) == 45) = false := by rw [h43]; rfl
    have b46 : ((c : Int) == 46) = false := by rw [h43]; rfl
    have b101 : ((c : Int) == 101) = false := by rw [h43]; rfl
    have hd : isDig c = false := by rw [h43]; rfl
    have HK := hid h43
    clear h43
    go_enter Try.func44, Try.ntmps44
    go_wp2_with (first | (go_at_call 71; refine (isDigit_b c _).mono ?_; rintro e w' ⟨rfl, rfl⟩) | (go_at_call 72; refine (isHex_b c _).mono ?_; rintro e w' ⟨rfl, rfl⟩) | (go_at_call 73; refine (nh3 c _ _ _ _).mono ?_; rintro e w' ⟨rfl, rfl⟩))
    go_ret
    exact ⟨ret_int (by rw [HK.out]; rfl), rfl⟩
  · have b43 : ((c : Int) == 43) = false := by rw [beq_eq_false_iff_ne]; omega
    by_cases h45 : c = 45
    ·
      have b43 : ((c : Int) == 43) = false := by rw [h45]; rfl
      have b45 : ((c : Int) == 45) = true := by rw [h45]; rfl
      have b46 : ((c : Int) == 46) = false := by rw [h45]; rfl
      have b101 : ((c : Int) == 101) = false := by rw [h45]; rfl
      have hd : isDig c = false := by rw [h45]; rfl
      have HK := hid h45
      clear h45
      go_enter Try.func44, Try.ntmps44
      go_wp2_with (first | (go_at_call 71; refine (isDigit_b c _).mono ?_; rintro e w' ⟨rfl, rfl⟩) | (go_at_call 72; refine (isHex_b c _).mono ?_; rintro e w' ⟨rfl, rfl⟩) | (go_at_call 73; refine (nh3 c _ _ _ _).mono ?_; rintro e w' ⟨rfl, rfl⟩))
      go_ret
      exact ⟨ret_int (by rw [HK.out]; rfl), rfl⟩
    · have b45 : ((c : Int) == 45) = false := by rw [beq_eq_false_iff_ne]; omega
      have hsg : sgn c = false := by unfold sgn; simp [h43, h45]
      cases hd : isDig c with
      | true =>
        go_enter Try.func44, Try.ntmps44
        go_wp2_with (first | (go_at_call 71; refine (isDigit_b c _).mono ?_; rintro e w' ⟨rfl, rfl⟩) | (go_at_call 72; refine (isHex_b c _).mono ?_; rintro e w' ⟨rfl, rfl⟩) | (go_at_call 73; refine (nh3 c _ _ _ _).mono ?_; rintro e w' ⟨rfl, rfl⟩))
        go_ret
        exact ⟨ret_int (by unfold nextS; (try unfold beginS); (try unfold nhS); simp [*]), rfl⟩
      | false =>
        by_cases h46 : c = 46
        ·
          have b43 : ((c : Int) == 43) = false := by rw [h46]; rfl
          have b45 : ((c : Int) == 45) = false := by rw [h46]; rfl
          have b46 : ((c : Int) == 46) = true := by rw [h46]; rfl
          have b101 : ((c : Int) == 101) = false := by rw [h46]; rfl
          have hd : isDig c = false := by rw [h46]; rfl
          have HK := hid h46
          clear h46
          go_enter Try.func44, Try.ntmps44
          go_wp2_with (first | (go_at_call 71; refine (isDigit_b c _).mono ?_; rintro e w' ⟨rfl, rfl⟩) | (go_at_call 72; refine (isHex_b c _).mono ?_; rintro e w' ⟨rfl, rfl⟩) | (go_at_call 73; refine (nh3 c _ _ _ _).mono ?_; rintro e w' ⟨rfl, rfl⟩))
          go_ret
          exact ⟨ret_int (by rw [HK.out]; rfl), rfl⟩
        · have b46 : ((c : Int) == 46) = false := by rw [beq_eq_false_iff_ne]; omega
          by_cases h101 : c = 101
          ·
            have b43 : ((c : Int) == 43) = false := by rw [h101]; rfl
            have b45 : ((c : Int) == 45) = false := by rw [h101]; rfl
            have b46 : ((c : Int) == 46) = false := by rw [h101]; rfl
            have b101 : ((c : Int) == 101) = true := by rw [h101]; rfl
            have hd : isDig c = false := by rw [h101]; rfl
            have HK := hid h101
            clear h101
            go_enter Try.func44, Try.ntmps44
            go_wp2_with (first | (go_at_call 71; refine (isDigit_b c _).mono ?_; rintro e w' ⟨rfl, rfl⟩) | (go_at_call 72; refine (isHex_b c _).mono ?_; rintro e w' ⟨rfl, rfl⟩) | (go_at_call 73; refine (nh3 c _ _ _ _).mono ?_; rintro e w' ⟨rfl, rfl⟩))
            go_ret
            exact ⟨ret_int (by rw [HK.out]; rfl), rfl⟩
          · have b101 : ((c : Int) == 101) = false := by rw [beq_eq_false_iff_ne]; omega
            go_enter Try.func44, Try.ntmps44
            go_wp2_with (first | (go_at_call 71; refine (isDigit_b c _).mono ?_; rintro e w' ⟨rfl, rfl⟩) | (go_at_call 72; refine (isHex_b c _).mono ?_; rintro e w' ⟨rfl, rfl⟩) | (go_at_call 73; refine (nh3 c _ _ _ _).mono ?_; rintro e w' ⟨rfl, rfl⟩))
            go_ret
            exact ⟨ret_int (by unfold nextS; (try unfold beginS); (try unfold nhS); simp [*]), rfl⟩

set_option maxRecDepth 100000 in
set_option maxHeartbeats 1000000 in
theorem next4 (c : Nat) (w : World) : Calls Try.prog 44 #[.int .i64 4, .int .u8 (c : Int)] w fun e w' => e = .returned (.int .i64 ((nextS 4 c : Nat) : Int)) ∧ w' = w := by
  by_cases h43 : c = 43
  ·
    have b43 : ((c : Int) == 43) = true := by rw [h43]; rfl
    have b45 : ((c : Int) == 45) = false := by rw [h43]; rfl
    have b46 : ((c : Int) == 46) = false := by rw [h43]; rfl
    have b101 : ((c : Int) == 101) = false := by rw [h43]; rfl
    have hd : isDig c = false := by rw [h43]; rfl
    have HK := hid h43
    clear h43
    go_enter Try.func44, Try.ntmps44
    go_wp2_with (first | (go_at_call 71; refine (isDigit_b c _).mono ?_; rintro e w' ⟨rfl, rfl⟩) | (go_at_call 72; refine (isHex_b c _).mono ?_; rintro e w' ⟨rfl, rfl⟩) | (go_at_call 73; refine (nh4 c _ _ _ _).mono ?_; rintro e w' ⟨rfl, rfl⟩))
    go_ret
    exact ⟨ret_int (by rw [HK.out]; rfl), rfl⟩
  · have b43 : ((c : Int) == 43) = false := by rw [beq_eq_false_iff_ne]; omega
    by_cases h45 : c = 45
    ·
      have b43 : ((c : Int) == 43) = false := by rw [h45]; rfl
      have b45 : ((c : Int) == 45) = true := by rw [h45]; rfl
      have b46 : ((c : Int) == 46) = false := by rw [h45]; rfl
      have b101 : ((c : Int) == 101) = false := by rw [h45]; rfl
      have hd : isDig c = false := by rw [h45]; rfl
      have HK := hid h45
      clear h45
      go_enter Try.func44, Try.ntmps44
      go_wp2_with (first | (go_at_call 71; refine (isDigit_b c _).mono ?_; rintro e w' ⟨rfl, rfl⟩) | (go_at_call 72; refine (isHex_b c _).mono ?_; rintro e w' ⟨rfl, rfl⟩) | (go_at_call 73; refine (nh4 c _ _ _ _).mono ?_; rintro e w' ⟨rfl, rfl⟩))
      go_ret
      exact ⟨ret_int (by rw [HK.out]; rfl), rfl⟩
    · have b45 : ((c : Int) == 45) = false := by rw [beq_eq_false_iff_ne]; omega
      have hsg : sgn c = false := by unfold sgn; simp [h43, h45]
      cases hd : isDig c with
      | true =>
        go_enter Try.func44, Try.ntmps44
        go_wp2_with (first | (go_at_call 71; refine (isDigit_b c _).mono ?_; rintro e w' ⟨rfl, rfl⟩) | (go_at_call 72; refine (isHex_b c _).mono ?_; rintro e w' ⟨rfl, rfl⟩) | (go_at_call 73; refine (nh4 c _ _ _ _).mono ?_; rintro e w' ⟨rfl, rfl⟩))
        go_ret
        exact ⟨ret_int (by unfold nextS; (try unfold beginS); (try unfold nhS); simp [*]), rfl⟩
      | false =>
        by_cases h46 : c = 46
        ·
          have b43 : ((c : Int) == 43) = false := by rw [h46]; rfl
          have b45 : ((c : Int) == 45) = false := by rw [h46]; rfl
          have b46 : ((c : Int) == 46) = true := by rw [h46]; rfl
          have b101 : ((c : Int) == 101) = false := by rw [h46]; rfl
          have hd : isDig c = false := by rw [h46]; rfl
          have HK := hid h46
          clear h46
          go_enter Try.func44, Try.ntmps44
          go_wp2_with (first | (go_at_call 71; refine (isDigit_b c _).mono ?_; rintro e w' ⟨rfl, rfl⟩) | (go_at_call 72; refine (isHex_b c _).mono ?_; rintro e w' ⟨rfl, rfl⟩) | (go_at_call 73; refine (nh4 c _ _ _ _).mono ?_; rintro e w' ⟨rfl, rfl⟩))
          go_ret
          exact ⟨ret_int (by rw [HK.out]; rfl), rfl⟩
        · have b46 : ((c : Int) == 46) = false := by rw [beq_eq_false_iff_ne]; omega
          by_cases h101 : c = 101
          ·
            have b43 : ((c : Int) == 43) = false := by rw [h101]; rfl
            have b45 : ((c : Int) == 45) = false := by rw [h101]; rfl
            have b46 : ((c : Int) == 46) = false := by rw [h101]; rfl
            have b101 : ((c : Int) == 101) = true := by rw [h101]; rfl
            have hd : isDig c = false := by rw [h101]; rfl
            have HK := hid h101
            clear h101
            go_enter Try.func44, Try.ntmps44
            go_wp2_with (first | (go_at_call 71; refine (isDigit_b c _).mono ?_; rintro e w' ⟨rfl, rfl⟩) | (go_at_call 72; refine (isHex_b c _).mono ?_; rintro e w' ⟨rfl, rfl⟩) | (go_at_call 73; refine (nh4 c _ _ _ _).mono ?_; rintro e w' ⟨rfl, rfl⟩))
            go_ret
            exact ⟨ret_int (by rw [HK.out]; rfl), rfl⟩
          · have b101 : ((c : Int) == 101) = false := by rw [beq_eq_false_iff_ne]; omega
            go_enter Try.func44, Try.ntmps44
            go_wp2_with (first | (go_at_call 71; refine (isDigit_b c _).mono ?_; rintro e w' ⟨rfl, rfl⟩) | (go_at_call 72; refine (isHex_b c _).mono ?_; rintro e w' ⟨rfl, rfl⟩) | (go_at_call 73; refine (nh4 c _ _ _ _).mono ?_; rintro e w' ⟨rfl, rfl⟩))
            go_ret
            exact ⟨ret_int (by unfold nextS; (try unfold beginS); (try unfold nhS); simp [*]), rfl⟩

set_option maxRecDepth 100000 in
set_option maxHeartbeats 1000000 in
theorem next5 (c : Nat) (w : World) : Calls Try.prog 44 #[.int .i64 5, .int .u8 (c : Int)] w fun e w' => e = .returned (.int .i64 ((nextS 5 c : Nat) : Int)) ∧ w' = w := by
  by_cases h43 : c = 43
  ·
    have b43 : ((c : Int) == 43) = true := by rw [h43]; rfl
    have b45 : ((c : Int) == 45) = false := by rw [h43]; rfl
    have hd : isDig c = false := by rw [h43]; rfl
    have HK := hid h43
    clear h43
    go_enter Try.func44, Try.ntmps44
    go_wp2_with (first | (go_at_call 71; refine (isDigit_b c _).mono ?_; rintro e w' ⟨rfl, rfl⟩) | (go_at_call 72; refine (isHex_b c _).mono ?_; rintro e w' ⟨rfl, rfl⟩) | (go_at_call 73; refine (nh5 c _ _ _ _).mono ?_; rintro e w' ⟨rfl, rfl⟩))
    go_ret
    exact ⟨ret_int (by rw [HK.out]; rfl), rfl⟩
  · have b43 : ((c : Int) == 43) = false := by rw [beq_eq_false_iff_ne]; omega
    by_cases h45 : c = 45
    ·
      have b43 : ((c : Int) == 43) = false := by rw [h45]; rfl
      have b45 : ((c : Int) == 45) = true := by rw [h45]; rfl
      have hd : isDig c = false := by rw [h45]; rfl
      have HK := hid h45
      clear h45
      go_enter Try.func44, Try.ntmps44
      go_wp2_with (first | (go_at_call 71; refine (isDigit_b c _).mono ?_; rintro e w' ⟨rfl, rfl⟩) | (go_at_call 72; refine (isHex_b c _).mono ?_; rintro e w' ⟨rfl, rfl⟩) | (go_at_call 73; refine (nh5 c _ _ _ _).mono ?_; rintro e w' ⟨rfl, rfl⟩))
      go_ret
      exact ⟨ret_int (by rw [HK.out]; rfl), rfl⟩
    · have b45 : ((c : Int) == 45) = false := by rw [beq_eq_false_iff_ne]; omega
      have hsg : sgn c = false := by unfold sgn; simp [h43, h45]
      cases hd : isDig c with
      | true =>
        go_enter Try.func44, Try.ntmps44
        go_wp2_with (first | (go_at_call 71; refine (isDigit_b c _).mono ?_; rintro e w' ⟨rfl, rfl⟩) | (go_at_call 72; refine (isHex_b c _).mono ?_; rintro e w' ⟨rfl, rfl⟩) | (go_at_call 73; refine (nh5 c _ _ _ _).mono ?_; rintro e w' ⟨rfl, rfl⟩))
        go_ret
        exact ⟨ret_int (by unfold nextS; (try unfold beginS); (try unfold nhS); simp [*]), rfl⟩
      | false =>
        go_enter Try.func44, Try.ntmps44
        go_wp2_with (first | (go_at_call 71; refine (isDigit_b c _).mono ?_; rintro e w' ⟨rfl, rfl⟩) | (go_at_call 72; refine (isHex_b c _).mono ?_; rintro e w' ⟨rfl, rfl⟩) | (go_at_call 73; refine (nh5 c _ _ _ _).mono ?_; rintro e w' ⟨rfl, rfl⟩))
        go_ret
        exact ⟨ret_int (by unfold nextS; (try unfold beginS); (try unfold nhS); simp [*]), rfl⟩

set_option maxRecDepth 100000 in
set_option maxHeartbeats 1000000 in
theorem next6 (c : Nat) (w : World) : Calls Try.prog 44 #[.int .i64 6, .int .u8 (c : Int)] w fun e w' => e = .returned (.int .i64 ((nextS 6 c : Nat) : Int)) ∧ w' = w := by
  by_cases h43 : c = 43
  ·
    have b43 : ((c : Int) == 43) = true := by rw [h43]; rfl
    have b45 : ((c : Int) == 45) = false := by rw [h43]; rfl
    have b46 : ((c : Int) == 46) = false := by rw [h43]; rfl
    have b101 : ((c : Int) == 101) = false := by rw [h43]; rfl
    have hd : isDig c = false := by rw [h43]; rfl
    have HK := hid h43
    clear h43
    go_enter Try.func44, Try.ntmps44
    go_wp2_with (first | (go_at_call 71; refine (isDigit_b c _).mono ?_; rintro e w' ⟨rfl, rfl⟩) | (go_at_call 72; refine (isHex_b c _).mono ?_; rintro e w' ⟨rfl, rfl⟩) | (go_at_call 73; refine (nh6 c _ _ _ _).mono ?_; rintro e w' ⟨rfl, rfl⟩))
    go_ret
    exact ⟨ret_int (by rw [HK.out]; rfl), rfl⟩
  · have b43 : ((c : Int) == 43) = false := by rw [beq_eq_false_iff_ne]; omega
    by_cases h45 : c = 45
    ·
      have b43 : ((c : Int) == 43) = false := by rw [h45]; rfl
      have b45 : ((c : Int) == 45) = true := by rw [h45]; rfl
      have b46 : ((c : Int) == 46) = false := by rw [h45]; rfl
      have b101 : ((c : Int) == 101) = false := by rw [h45]; rfl
      have hd : isDig c = false := by rw [h45]; rfl
      have HK := hid h45
      clear h45
      go_enter Try.func44, Try.ntmps44
      go_wp2_with (first | (go_at_call 71; refine (isDigit_b c _).mono ?_; rintro e w' ⟨rfl, rfl⟩) | (go_at_call 72; refine (isHex_b c _).mono ?_; rintro e w' ⟨rfl, rfl⟩) | (go_at_call 73; refine (nh6 c _ _ _ _).mono ?_; rintro e w' ⟨rfl, rfl⟩))
      go_ret
      exact ⟨ret_int (by rw [HK.out]; rfl), rfl⟩
    · have b45 : ((c : Int) == 45) = false := by rw [beq_eq_false_iff_ne]; omega
      have hsg : sgn c = false := by unfold sgn; simp [h43, h45]
      cases hd : isDig c with
      | true =>
        go_enter Try.func44, Try.ntmps44
        go_wp2_with (first | (go_at_call 71; refine (isDigit_b c _).mono ?_; rintro e w' ⟨rfl, rfl⟩) | (go_at_call 72; refine (isHex_b c _).mono ?_; rintro e w' ⟨rfl, rfl⟩) | (go_at_call 73; refine (nh6 c _ _ _ _).mono ?_; rintro e w' ⟨rfl, rfl⟩))
        go_ret
        exact ⟨ret_int (by unfold nextS; (try unfold beginS); (try unfold nhS); simp [*]), rfl⟩
      | false =>
        by_cases h46 : c = 46
        ·
          have b43 : ((c : Int) == 43) = false := by rw [h46]; rfl
          have b45 : ((c : Int) == 45) = false := by rw [h46]; rfl
          have b46 : ((c : Int) == 46) = true := by rw [h46]; rfl
          have b101 : ((c : Int) == 101) = false := by rw [h46]; rfl
          have hd : isDig c = false := by rw [h46]; rfl
          have HK := hid h46
          clear h46
          go_enter Try.func44, Try.ntmps44
          go_wp2_with (first | (go_at_call 71; refine (isDigit_b c _).mono ?_; rintro e w' ⟨rfl, rfl⟩) | (go_at_call 72; refine (isHex_b c _).mono ?_; rintro e w' ⟨rfl, rfl⟩) | (go_at_call 73; refine (nh6 c _ _ _ _).mono ?_; rintro e w' ⟨rfl, rfl⟩))
          go_ret
          exact ⟨ret_int (by rw [HK.out]; rfl), rfl⟩
        · have b46 : ((c : Int) == 46) = false := by rw [beq_eq_false_iff_ne]; omega
          by_cases h101 : c = 101
          ·
            have b43 : ((c : Int) == 43) = false := by rw [h101]; rfl
            have b45 : ((c : Int) == 45) = false := by rw [h101]; rfl
            have b46 : ((c : Int) == 46) = false := by rw [h101]; rfl
            have b101 : ((c : Int) == 101) = true := by rw [h101]; rfl
            have hd : isDig c = false := by rw [h101]; rfl
            have HK := hid h101
            clear h101
            go_enter Try.func44, Try.ntmps44
            go_wp2_with (first | (go_at_call 71; refine (isDigit_b c _).mono ?_; rintro e w' ⟨rfl, rfl⟩) | (go_at_call 72; refine (isHex_b c _).mono ?_; rintro e w' ⟨rfl, rfl⟩) | (go_at_call 73; refine (nh6 c _ _ _ _).mono ?_; rintro e w' ⟨rfl, rfl⟩))
            go_ret
            exact ⟨ret_int (by rw [HK.out]; rfl), rfl⟩
          · have b101 : ((c : Int) == 101) = false := by rw [beq_eq_false_iff_ne]; omega
            go_enter Try.func44, Try.ntmps44
            go_wp2_with (first | (go_at_call 71; refine (isDigit_b c _).mono ?_; rintro e w' ⟨rfl, rfl⟩) | (go_at_call 72; refine (isHex_b c _).mono ?_; rintro e w' ⟨rfl, rfl⟩) | (go_at_call 73; refine (nh6 c _ _ _ _).mono ?_; rintro e w' ⟨rfl, rfl⟩))
            go_ret
            exact ⟨ret_int (by unfold nextS; (try unfold beginS); (try unfold nhS); simp [*]), rfl⟩

set_option maxRecDepth 100000 in
set_option maxHeartbeats 1000000 in
theorem next7 (c : Nat) (w : World) : Calls Try.prog 44 #[.int .i64 7, .int .u8 (c : Int)] w fun e w' => e = .returned (.int .i64 ((nextS 7 c : Nat) : Int)) ∧ w' = w := by
  by_cases h43 : c = 43
  ·
    have b43 : ((c : Int) == 43) = true := by rw [h43]; rfl
    have b45 : ((c : Int) == 45) = false := by rw [h43]; rfl
    have hd : isDig c = false := by rw [h43]; rfl
    have HK := hid h43
    clear h43
    go_enter Try.func44, Try.ntmps44
    go_wp2_with (first | (go_at_call 71; refine (isDigit_b c _).mono ?_; rintro e w' ⟨rfl, rfl⟩) | (go_at_call 72; refine (isHex_b c _).mono ?_; rintro e w' ⟨rfl, rfl⟩) | (go_at_call 73; refine (nh7 c _ _ _ _).mono ?_; rintro e w' ⟨rfl, rfl⟩))
    go_ret
    exact ⟨ret_int (by rw [HK.out]; rfl), rfl⟩
  · have b43 : ((c : Int) == 43) = false := by rw [beq_eq_false_iff_ne]; omega
    by_cases h45 : c = 45
    ·
      have b43 : ((c : Int) == 43) = false := by rw [h45]; rfl
      have b45 : ((c : Int) == 45) = true := by rw [h45]; rfl
      have hd : isDig c = false := by rw [h45]; rfl
      have HK := hid h45
      clear h45
      go_enter Try.func44, Try.ntmps44
      go_wp2_with (first | (go_at_call 71; refine (isDigit_b c _).mono ?_; rintro e w' ⟨rfl, rfl⟩) | (go_at_call 72; refine (isHex_b c _).mono ?_; rintro e w' ⟨rfl, rfl⟩) | (go_at_call 73; refine (nh7 c _ _ _ _).mono ?_; rintro e w' ⟨rfl, rfl⟩))
      go_ret
      exact ⟨ret_int (by rw [HK.out]; rfl), rfl⟩
    · have b45 : ((c : Int) == 45) = false := by rw [beq_eq_false_iff_ne]; omega
      have hsg : sgn c = false := by unfold sgn; simp [h43, h45]
      cases hd : isDig c with
      | true =>
        go_enter Try.func44, Try.ntmps44
        go_wp2_with (first | (go_at_call 71; refine (isDigit_b c _).mono ?_; rintro e w' ⟨rfl, rfl⟩) | (go_at_call 72; refine (isHex_b c _).mono ?_; rintro e w' ⟨rfl, rfl⟩) | (go_at_call 73; refine (nh7 c _ _ _ _).mono ?_; rintro e w' ⟨rfl, rfl⟩))
        go_ret
        exact ⟨ret_int (by unfold nextS; (try unfold beginS); (try unfold nhS); simp [*]), rfl⟩
      | false =>
        go_enter Try.func44, Try.ntmps44
        go_wp2_with (first | (go_at_call 71; refine (isDigit_b c _).mono ?_; rintro e w' ⟨rfl, rfl⟩) | (go_at_call 72; refine (isHex_b c _).mono ?_; rintro e w' ⟨rfl, rfl⟩) | (go_at_call 73; refine (nh7 c _ _ _ _).mono ?_; rintro e w' ⟨rfl, rfl⟩))
        go_ret
        exact ⟨ret_int (by unfold nextS; (try unfold beginS); (try unfold nhS); simp [*]), rfl⟩

set_option maxRecDepth 100000 in
set_option maxHeartbeats 1000000 in
theorem next8 (c : Nat) (w : World) : Calls Try.prog 44 #[.int .i64 8, .int .u8 (c : Int)] w fun e w' => e = .returned (.int .i64 ((nextS 8 c : Nat) : Int)) ∧ w' = w := by
  by_cases h43 : c = 43
  ·
    have b43 : ((c : Int) == 43) = true := by rw [h43]; rfl
    have b45 : ((c : Int) == 45) = false := by rw [h43]; rfl
    have hd : isDig c = false := by rw [h43]; rfl
    have HK := hid h43
    clear h43
    go_enter Try.func44, Try.ntmps44
    go_wp2_with (first | (go_at_call 71; refine (isDigit_b c _).mono ?_; rintro e w' ⟨rfl, rfl⟩) | (go_at_call 72; refine (isHex_b c _).mono ?_; rintro e w' ⟨rfl, rfl⟩) | (go_at_call 73; refine (nh8 c _ _ _ _).mono ?_; rintro e w' ⟨rfl, rfl⟩))
    go_ret
    exact ⟨ret_int (by rw [HK.out]; rfl), rfl⟩
  · have b43 : ((c : Int) == 43) = false := by rw [beq_eq_false_iff_ne]; omega
    by_cases h45 : c = 45
    ·
      have b43 : ((c : Int) == 43) = false := by rw [h45]; rfl
      have b45 : ((c : Int) == 45) = true := by rw [h45]; rfl
      have hd : isDig c = false := by rw [h45]; rfl
      have HK := hid h45
      clear h45
      go_enter Try.func44, Try.ntmps44
      go_wp2_with (first | (go_at_call 71; refine (isDigit_b c _).mono ?_; rintro e w' ⟨rfl, rfl⟩) | (go_at_call 72; refine (isHex_b c _).mono ?_; rintro e w' ⟨rfl, rfl⟩) | (go_at_call 73; refine (nh8 c _ _ _ _).mono ?_; rintro e w' ⟨rfl, rfl⟩))
      go_ret
      exact ⟨ret_int (by rw [HK.out]; rfl), rfl⟩
    · have b45 : ((c : Int) == 45) = false := by rw [beq_eq_false_iff_ne]; omega
      have hsg : sgn c = false := by unfold sgn; simp [h43, h45]
      cases hd : isDig c with
      | true =>
        go_enter Try.func44, Try.ntmps44
        go_wp2_with (first | (go_at_call 71; refine (isDigit_b c _).mono ?_; rintro e w' ⟨rfl, rfl⟩) | (go_at_call 72; refine (isHex_b c _).mono ?_; rintro e w' ⟨rfl, rfl⟩) | (go_at_call 73; refine (nh8 c _ _ _ _).mono ?_; rintro e w' ⟨rfl, rfl⟩))
        go_ret
        exact ⟨ret_int (by unfold nextS; (try unfold beginS); (try unfold nhS); simp [*]), rfl⟩
      | false =>
        go_enter Try.func44, Try.ntmps44
        go_wp2_with (first | (go_at_call 71; refine (isDigit_b c _).mono ?_; rintro e w' ⟨rfl, rfl⟩) | (go_at_call 72; refine (isHex_b c _).mono ?_; rintro e w' ⟨rfl, rfl⟩) | (go_at_call 73; refine (nh8 c _ _ _ _).mono ?_; rintro e w' ⟨rfl, rfl⟩))
        go_ret
        exact ⟨ret_int (by unfold nextS; (try unfold beginS); (try unfold nhS); simp [*]), rfl⟩

set_option maxRecDepth 100000 in
set_option maxHeartbeats 1000000 in
theorem next9 (c : Nat) (w : World) : Calls Try.prog 44 #[.int .i64 9, .int .u8 (c : Int)] w fun e w' => e = .returned (.int .i64 ((nextS 9 c : Nat) : Int)) ∧ w' = w := by
  by_cases h43 : c = 43
  ·
    have b43 : ((c : Int) == 43) = true := by rw [h43]; rfl
    have b45 : ((c : Int) == 45) = false := by rw [h43]; rfl
    have hd : isDig c = false := by rw [h43]; rfl
    have HK := hid h43
    clear h43
    go_enter Try.func44, Try.ntmps44
    go_wp2_with (first | (go_at_call 71; refine (isDigit_b c _).mono ?_; rintro e w' ⟨rfl, rfl⟩) | (go_at_call 72; refine (isHex_b c _).mono ?_; rintro e w' ⟨rfl, rfl⟩) | (go_at_call 73; refine (nh9 c _ _ _ _).mono ?_; rintro e w' ⟨rfl, rfl⟩))
    go_ret
    exact ⟨ret_int (by rw [HK.out]; rfl), rfl⟩
  · have b43 : ((c : Int) == 43) = false := by rw [beq_eq_false_iff_ne]; omega
    by_cases h45 : c = 45
    ·
      have b43 : ((c : Int) == 43) = false := by rw [h45]; rfl
      have b45 : ((c : Int) == 45) = true := by rw [h45]; rfl
      have hd : isDig c = false := by rw [h45]; rfl
      have HK := hid h45
      clear h45
      go_enter Try.func44, Try.ntmps44
      go_wp2_with (first | (go_at_call 71; refine (isDigit_b c _).mono ?_; rintro e w' ⟨rfl, rfl⟩) | (go_at_call 72; refine (isHex_b c _).mono ?_; rintro e w' ⟨rfl, rfl⟩) | (go_at_call 73; refine (nh9 c _ _ _ _).mono ?_; rintro e w' ⟨rfl, rfl⟩))
      go_ret
      exact ⟨ret_int (by rw [HK.out]; rfl), rfl⟩
    · have b45 : ((c : Int) == 45) = false := by rw [beq_eq_false_iff_ne]; omega
      have hsg : sgn c = false := by unfold sgn; simp [h43, h45]
      cases hd : isDig c with
      | true =>
        go_enter Try.func44, Try.ntmps44
        go_wp2_with (first | (go_at_call 71; refine (isDigit_b c _).mono ?_; rintro e w' ⟨rfl, rfl⟩) | (go_at_call 72; refine (isHex_b c _).mono ?_; rintro e w' ⟨rfl, rfl⟩) | (go_at_call 73; refine (nh9 c _ _ _ _).mono ?_; rintro e w' ⟨rfl, rfl⟩))
        go_ret
        exact ⟨ret_int (by unfold nextS; (try unfold beginS); (try unfold nhS); simp [*]), rfl⟩
      | false =>
        go_enter Try.func44, Try.ntmps44
        go_wp2_with (first | (go_at_call 71; refine (isDigit_b c _).mono ?_; rintro e w' ⟨rfl, rfl⟩) | (go_at_call 72; refine (isHex_b c _).mono ?_; rintro e w' ⟨rfl, rfl⟩) | (go_at_call 73; refine (nh9 c _ _ _ _).mono ?_; rintro e w' ⟨rfl, rfl⟩))
        go_ret
        exact ⟨ret_int (by unfold nextS; (try unfold beginS); (try unfold nhS); simp [*]), rfl⟩

set_option maxRecDepth 100000 in
set_option maxHeartbeats 1000000 in
theorem nextBig (s c : Nat) (w : World) (h1 : 10 ≤ s) (h2 : s ≤ 28) : Calls Try.prog 44 #[.int .i64 (s : Int), .int .u8 (c : Int)] w fun e w' => e = .returned (.int .i64 ((nhS s c (isDig c) (isHexc c) (sgn c) : Nat) : Int)) ∧ w' = w := by
  have h1' : (10 : Int) ≤ s := by omega
  by_cases h43 : c = 43
  · have b43 : ((c : Int) == 43) = true := by rw [h43]; rfl
    have b45 : ((c : Int) == 45) = false := by rw [h43]; rfl
    have HS : Hid (sgn c = true) := by unfold Hid; rw [h43]; rfl
    clear h43
    go_enter Try.func44, Try.ntmps44
    go_wp2_with (first | (go_at_call 71; refine (isDigit_b c _).mono ?_; rintro e w' ⟨rfl, rfl⟩) | (go_at_call 72; refine (isHex_b c _).mono ?_; rintro e w' ⟨rfl, rfl⟩) | (go_at_call 73; refine (nh_any s c _ _ _ _ h2).mono ?_; rintro e w' ⟨rfl, rfl⟩))
    go_ret
    exact ⟨ret_int (by rw [HS.out]), rfl⟩
  · have b43 : ((c : Int) == 43) = false := by rw [beq_eq_false_iff_ne]; omega
    by_cases h45 : c = 45
    · have b43 : ((c : Int) == 43) = false := by rw [h45]; rfl
      have b45 : ((c : Int) == 45) = true := by rw [h45]; rfl
      have HS : Hid (sgn c = true) := by unfold Hid; rw [h45]; rfl
      clear h45
      go_enter Try.func44, Try.ntmps44
      go_wp2_with (first | (go_at_call 71; refine (isDigit_b c _).mono ?_; rintro e w' ⟨rfl, rfl⟩) | (go_at_call 72; refine (isHex_b c _).mono ?_; rintro e w' ⟨rfl, rfl⟩) | (go_at_call 73; refine (nh_any s c _ _ _ _ h2).mono ?_; rintro e w' ⟨rfl, rfl⟩))
      go_ret
      exact ⟨ret_int (by rw [HS.out]), rfl⟩
    · have b45 : ((c : Int) == 45) = false := by rw [beq_eq_false_iff_ne]; omega
      have HS : Hid (sgn c = false) := by unfold Hid sgn; simp [h43, h45]
      clear h43 h45
      go_enter Try.func44, Try.ntmps44
      go_wp2_with (first | (go_at_call 71; refine (isDigit_b c _).mono ?_; rintro e w' ⟨rfl, rfl⟩) | (go_at_call 72; refine (isHex_b c _).mono ?_; rintro e w' ⟨rfl, rfl⟩) | (go_at_call 73; refine (nh_any s c _ _ _ _ h2).mono ?_; rintro e w' ⟨rfl, rfl⟩))
      go_ret
      exact ⟨ret_int (by rw [HS.out]), rfl⟩
theorem nextS_big (s c : Nat) (h : 10 ≤ s) : nextS s c = nhS s c (isDig c) (isHexc c) (sgn c) := by
  obtain ⟨k, rfl⟩ : ∃ k, s = k + 10 := ⟨s - 10, by omega⟩
  rfl
theorem next_any (s c : Nat) (w : World) (hs : s ≤ 28) : Calls Try.prog 44 #[.int .i64 (s : Int), .int .u8 (c : Int)] w fun e w' => e = .returned (.int .i64 ((nextS s c : Nat) : Int)) ∧ w' = w := by
  by_cases h : 10 ≤ s
  · rw [nextS_big s c h]; exact nextBig s c w h hs
  · have hc : s = 0 ∨ s = 1 ∨ s = 2 ∨ s = 3 ∨ s = 4 ∨ s = 5 ∨ s = 6 ∨ s = 7 ∨ s = 8 ∨ s = 9 := by omega
    rcases hc with rfl | rfl | rfl | rfl | rfl | rfl | rfl | rfl | rfl | rfl
    · exact next0 c w
    · exact next1 c w
    · exact next2 c w
    · exact next3 c w
    · exact next4 c w
    · exact next5 c w
    · exact next6 c w
    · exact next7 c w
    · exact next8 c w
    · exact next9 c w

end Go.Proofs.Ytbkdaoicnobllaa
