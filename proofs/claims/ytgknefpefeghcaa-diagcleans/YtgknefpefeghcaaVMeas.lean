/- What measureOf answers of a value: how deep and great it is, whether all is known, whether it is right. Condition: the value lies in memory. -/
import Derived.Test.YtgknefpefeghcaaVGetB
namespace Go.Proofs.Ytgknefpefeghcaa
open Go.RowKit Go.Maps

set_option maxRecDepth 100000 in
theorem tooLong_any (s : ByteArray) (w : World) : Calls Try.prog 115 #[.string s] w fun e w' => e = .returned (.bool (decide (256 < s.size))) ∧ w = w' := by
  go_enter Try.func115, Try.ntmps115
  go_wp2_with fail
  go_ret
  exact ⟨ret_bool (by rw [Bool.eq_iff_iff, decide_eq_true_iff, decide_eq_true_iff]; omega), rfl⟩
set_option maxRecDepth 100000 in
theorem right_text (s : ByteArray) : (V.mk 5 false 0 0 s [] []).right = decide (s.size ≤ 256) := by
  simp [V.right, V.deep, V.fits, V.deep.go, V.fits.go]
def V.meas (v : V) : Value := .agg #[.int .i64 (v.deep : Nat), .int .i64 (v.size : Nat), .bool v.known, .bool v.right]
set_option maxRecDepth 100000 in
set_option maxHeartbeats 3200000 in
theorem measOf_any {w0 : World} {ok : Nat → Prop} {h : Value} {v : V} (hr : Rep w0 ok h v) (w : World) (hb : Below w0.heap.size w0 w) : Calls Try.prog 103 #[h] w fun e w' => e = .returned v.meas ∧ Below w.heap.size w w' := by
  have hr1 := hr.stays hb
  clear hr hb
  induction hr1 using Rep.ind
  case text s hs =>
    have aL := as_later
    have aS := as_string
    have aG := as_group
    have aT := as_table
    have E : Hid ((V.mk 5 false 0 0 s [] []).meas = .agg #[.int .i64 1, .int .i64 1, .bool true, .bool (!decide (256 < s.size))]) := by
      show V.meas _ = _
      rw [V.meas, right_text]
      have : (!decide (256 < s.size)) = decide (s.size ≤ 256) := by rw [Bool.eq_iff_iff]; simp
      rw [this]
      simp [V.deep, V.size, V.known, V.deep.go, V.size.go, V.known.go]
    generalize (V.mk 5 false 0 0 s [] []).meas = R at *
    go_enter Try.func103, Try.ntmps103
    go_wp2_with fail
    refine (tooLong_any _ _).mono ?_
    rintro e w1 ⟨rfl, rfl⟩
    go_wp2_with fail
    refine bodyPost_ret (v := .agg #[.int .i64 1, .int .i64 1, .bool true, .bool (!decide (256 < s.size))]) (by simp [results, Try.results103, go_sem]) rfl ⟨by rw [E.out], ?_⟩
    exact ((Below.refl _ _).alloc (Nat.le_refl _) _).alloc (by simp) _
  case list B l a c H hBo ha c0 c1 c2 c3 c4 hrow hin _ih =>
    have aG := as_group
    have hB : B < w.heap.size := World.block_lt_of_cell? w ⟨B, 0, none⟩ c0
    unfold V.meas
    clear ha c4 hrow hin _ih
    generalize (V.mk 6 false 0 0 ByteArray.empty l []).deep = X0 at *
    generalize (V.mk 6 false 0 0 ByteArray.empty l []).size = X1 at *
    generalize (V.mk 6 false 0 0 ByteArray.empty l []).known = X2 at *
    generalize (V.mk 6 false 0 0 ByteArray.empty l []).right = X3 at *
    go_enter Try.func103, Try.ntmps103
    go_wp2_with fail
    exact bodyPost_ret (v := .agg #[.int .i64 X0, .int .i64 X1, .bool X2, .bool X3]) (by simp [results, Try.results103, go_sem]) rfl ⟨rfl, ((Below.refl _ _).alloc (Nat.le_refl _) _).alloc (by simp) _⟩
  case map B M l q a c ka kc H hBo hMo ha hka hq c0 c1 c2 c3 c4 c5 c6 hk hM hrow hin _ih =>
    have aG := as_group
    have aT := as_table
    have hB : B < w.heap.size := World.block_lt_of_cell? w ⟨B, 0, none⟩ c0
    unfold V.meas
    clear ha hka hq c4 c5 c6 hk hM hrow hin _ih
    generalize (V.mk 7 false 0 0 ByteArray.empty l q).deep = X0 at *
    generalize (V.mk 7 false 0 0 ByteArray.empty l q).size = X1 at *
    generalize (V.mk 7 false 0 0 ByteArray.empty l q).known = X2 at *
    generalize (V.mk 7 false 0 0 ByteArray.empty l q).right = X3 at *
    go_enter Try.func103, Try.ntmps103
    go_wp2_with fail
    exact bodyPost_ret (v := .agg #[.int .i64 X0, .int .i64 X1, .bool X2, .bool X3]) (by simp [results, Try.results103, go_sem]) rfl ⟨rfl, ((Below.refl _ _).alloc (Nat.le_refl _) _).alloc (by simp) _⟩
  case later =>
    have aL := as_later
    have aG := as_group
    have aT := as_table
    have E : Hid ((V.mk 1 false 0 0 ByteArray.empty [] []).meas = .agg #[.int .i64 1, .int .i64 1, .bool false, .bool true]) := by
      show V.meas _ = _
      simp [V.meas, V.deep, V.size, V.known, V.right, V.fits, V.deep.go, V.size.go, V.known.go, V.fits.go]
    generalize (V.mk 1 false 0 0 ByteArray.empty [] []).meas = R at *
    go_enter Try.func103, Try.ntmps103
    go_wp2_with fail
    refine bodyPost_ret (v := .agg #[.int .i64 1, .int .i64 1, .bool false, .bool true]) (by simp [results, Try.results103, go_sem]) rfl ⟨by rw [E.out], ?_⟩
    exact (((Below.refl _ _).alloc (Nat.le_refl _) _).alloc (by simp) _).alloc (by simp; omega) _
  all_goals have aL := as_later
  all_goals have aS := as_string
  all_goals have aG := as_group
  all_goals have aT := as_table
  all_goals have nL := an_later
  all_goals have nS := an_string
  all_goals have nG := an_group
  all_goals have nT := an_table
  case null =>
    have E : Hid (V.null.meas = .agg #[.int .i64 1, .int .i64 1, .bool true, .bool true]) := by
      show V.meas _ = _
      simp [V.null, V.meas, V.deep, V.size, V.known, V.right, V.fits, V.deep.go, V.size.go, V.known.go, V.fits.go]
    generalize V.null.meas = R at *
    go_enter Try.func103, Try.ntmps103
    go_wp2_with fail
    refine bodyPost_ret (v := .agg #[.int .i64 1, .int .i64 1, .bool true, .bool true]) (by simp [results, Try.results103, go_sem]) rfl ⟨by rw [E.out], ?_⟩
    exact ((Below.refl _ _).alloc (Nat.le_refl _) _).alloc (by simp) _
  case bool b =>
    have E : Hid ((V.mk 2 b 0 0 ByteArray.empty [] []).meas = .agg #[.int .i64 1, .int .i64 1, .bool true, .bool true]) := by
      show V.meas _ = _
      simp [V.meas, V.deep, V.size, V.known, V.right, V.fits, V.deep.go, V.size.go, V.known.go, V.fits.go]
    generalize (V.mk 2 b 0 0 ByteArray.empty [] []).meas = R at *
    go_enter Try.func103, Try.ntmps103
    go_wp2_with fail
    refine bodyPost_ret (v := .agg #[.int .i64 1, .int .i64 1, .bool true, .bool true]) (by simp [results, Try.results103, go_sem]) rfl ⟨by rw [E.out], ?_⟩
    exact ((Below.refl _ _).alloc (Nat.le_refl _) _).alloc (by simp) _
  case int n hn =>
    have E : Hid ((V.mk 3 false n 0 ByteArray.empty [] []).meas = .agg #[.int .i64 1, .int .i64 1, .bool true, .bool true]) := by
      show V.meas _ = _
      simp [V.meas, V.deep, V.size, V.known, V.right, V.fits, V.deep.go, V.size.go, V.known.go, V.fits.go]
    generalize (V.mk 3 false n 0 ByteArray.empty [] []).meas = R at *
    go_enter Try.func103, Try.ntmps103
    go_wp2_with fail
    refine bodyPost_ret (v := .agg #[.int .i64 1, .int .i64 1, .bool true, .bool true]) (by simp [results, Try.results103, go_sem]) rfl ⟨by rw [E.out], ?_⟩
    exact ((Below.refl _ _).alloc (Nat.le_refl _) _).alloc (by simp) _
  case point n m hn hm =>
    have E : Hid ((V.mk 4 false n m ByteArray.empty [] []).meas = .agg #[.int .i64 1, .int .i64 1, .bool true, .bool true]) := by
      show V.meas _ = _
      simp [V.meas, V.deep, V.size, V.known, V.right, V.fits, V.deep.go, V.size.go, V.known.go, V.fits.go]
    generalize (V.mk 4 false n m ByteArray.empty [] []).meas = R at *
    generalize floatOfInt .f64 n = N at *
    generalize floatOfInt .f64 m = M at *
    go_enter Try.func103, Try.ntmps103
    go_wp2_with fail
    refine bodyPost_ret (v := .agg #[.int .i64 1, .int .i64 1, .bool true, .bool true]) (by simp [results, Try.results103, go_sem]) rfl ⟨by rw [E.out], ?_⟩
    exact ((Below.refl _ _).alloc (Nat.le_refl _) _).alloc (by simp) _
end Go.Proofs.Ytgknefpefeghcaa
