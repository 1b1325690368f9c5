/- NatNames: the law's walk: its examples, up to the long one. -/
import Derived.Test.YtlfhpoffphljfaaNatZ
namespace Go.Proofs.Ytlfhpoffphljfaa
open Go.RowKit

set_option linter.unusedVariables false

set_option maxRecDepth 1000000 in
set_option maxHeartbeats 8000000 in
theorem names_all (w : World) : Calls Try.prog 3 #[] w fun e w' => e = .returned (.bool true) ∧ Below w.heap.size w w' := by
  obtain ⟨i0, hi, hz0, hz1, hz2⟩ := info_parts info32
  have env0 : Env w w [(.slice none 0 0, [])] := (env_start w).nil
  go_enter Try.func3, Try.ntmps3
  go_wp2_with fail
  refine (awake_env env0).mono ?_
  rintro e w1 ⟨rfl, env1⟩
  clear env0
  go_wp2_with fail
  refine (lof_env (env1.lit2 4294967295 4294967295 4294967295 4294967295 rfl rfl (by decide) (by decide))).mono ?_
  rintro e w2 ⟨r2, rfl, env2⟩
  clear env1
  go_wp2_with fail
  refine (low_is env2 (va := r2) (xs := [4294967295, 4294967295]) (by simp) (b := true) f1 (by decide)).mono ?_
  rintro e w3 ⟨rfl, env3⟩
  clear env2
  have env4 := env3.pop
  clear env3
  go_wp2_with fail
  refine (lof_env (env4.lit3 0 0 1 0 0 1 rfl rfl rfl (by decide) (by decide) (by decide))).mono ?_
  rintro e w5 ⟨r5, rfl, env5⟩
  clear env4
  go_wp2_with fail
  refine (low_is env5 (va := r5) (xs := [0, 0, 1]) (by simp) (b := false) f2 (by decide)).mono ?_
  rintro e w6 ⟨rfl, env6⟩
  clear env5
  have env7 := env6.pop
  clear env6
  go_wp2_with fail
  refine (low_is env7 (va := (.slice none 0 0)) (xs := []) (by simp) (n := 0) (b := true) (by decide) (by decide)).mono ?_
  rintro e w8 ⟨rfl, env8⟩
  clear env7
  go_wp2_with fail
  refine (lof_env (env8.lit3 0 0 1 0 0 1 rfl rfl rfl (by decide) (by decide) (by decide))).mono ?_
  rintro e w9 ⟨r9, rfl, env9⟩
  clear env8
  go_wp2_with fail
  refine (lof_env (env9.lit1 1 1 rfl (by decide))).mono ?_
  rintro e w10 ⟨r10, rfl, env10⟩
  clear env9
  go_wp2_with fail
  refine (sub_is env10 (va := r9) (xs := [0, 0, 1]) (vb := r10) (ys := [1]) (by simp) (by simp) (b := true) (by decide) f3).mono ?_
  rintro e w11 ⟨r11, rfl, env11⟩
  clear env10
  go_wp2_with fail
  refine (lof_env (env11.lit1 1 1 rfl (by decide))).mono ?_
  rintro e w12 ⟨r12, rfl, env12⟩
  clear env11
  go_wp2_with fail
  refine (lof_env (env12.lit2 0 1 0 1 rfl rfl (by decide) (by decide))).mono ?_
  rintro e w13 ⟨r13, rfl, env13⟩
  clear env12
  go_wp2_with fail
  refine (sub_is env13 (va := r12) (xs := [1]) (vb := r13) (ys := [0, 1]) (by simp) (by simp) (b := false) (by decide) f4).mono ?_
  rintro e w14 ⟨r14, rfl, env14⟩
  clear env13
  have env15 := env14.pop.pop.pop
  clear env14
  go_wp2_with fail
  refine (lof_env (env15.lit2 7 7 7 7 rfl rfl (by decide) (by decide))).mono ?_
  rintro e w16 ⟨r16, rfl, env16⟩
  clear env15
  go_wp2_with fail
  refine (lof_env (env16.lit2 7 7 7 7 rfl rfl (by decide) (by decide))).mono ?_
  rintro e w17 ⟨r17, rfl, env17⟩
  clear env16
  go_wp2_with fail
  refine (sub_is env17 (va := r16) (xs := [7, 7]) (vb := r17) (ys := [7, 7]) (by simp) (by simp) (b := true) (by decide) f5).mono ?_
  rintro e w18 ⟨r18, rfl, env18⟩
  clear env17
  obtain ⟨A18, cap18, rfl, _⟩ := env18.get (v := r18) (xs := []) (by simp)
  go_wp2_with fail
  refine (lof_env (env18.lit2 4294967295 4294967295 4294967295 4294967295 rfl rfl (by decide) (by decide))).mono ?_
  rintro e w19 ⟨r19, rfl, env19⟩
  clear env18
  go_wp2_with fail
  refine (same_yes env19 (va := r11) (xs := [4294967295, 4294967295]) (vb := r19) (ys := [4294967295, 4294967295]) (by simp) (by simp) rfl).mono ?_
  rintro e w20 ⟨rfl, env20⟩
  clear env19
  have env21 := env20.pop
  clear env20
  go_wp2_with fail
  refine (lof_env (env21.lit3 4294967295 4294967295 4294967295 4294967295 4294967295 4294967295 rfl rfl rfl (by decide) (by decide) (by decide))).mono ?_
  rintro e w22 ⟨r22, rfl, env22⟩
  clear env21
  go_wp2_with fail
  refine (lof_env (env22.lit1 1 1 rfl (by decide))).mono ?_
  rintro e w23 ⟨r23, rfl, env23⟩
  clear env22
  go_wp2_with fail
  refine (add_is env23 (va := r22) (xs := [4294967295, 4294967295, 4294967295]) (vb := r23) (ys := [1]) (by simp) (by simp) f6).mono ?_
  rintro e w24 ⟨r24, rfl, env24⟩
  clear env23
  go_wp2_with fail
  refine (lof_env (env24.lit4 0 0 0 1 0 0 0 1 rfl rfl rfl rfl (by decide) (by decide) (by decide) (by decide))).mono ?_
  rintro e w25 ⟨r25, rfl, env25⟩
  clear env24
  go_wp2_with fail
  refine (same_yes env25 (va := r24) (xs := [0, 0, 0, 1]) (vb := r25) (ys := [0, 0, 0, 1]) (by simp) (by simp) rfl).mono ?_
  rintro e w26 ⟨rfl, env26⟩
  clear env25
  have env27 := env26.pop.pop.pop.pop.pop.pop.pop.pop.pop.pop
  clear env26
  go_wp2_with fail
  refine (of_is env27 18446744073709551615 (by decide) f7).mono ?_
  rintro e w28 ⟨r28, rfl, env28⟩
  clear env27
  go_wp2_with fail
  refine (lof_env (env28.lit2 4294967295 4294967295 4294967295 4294967295 rfl rfl (by decide) (by decide))).mono ?_
  rintro e w29 ⟨r29, rfl, env29⟩
  clear env28
  go_wp2_with fail
  refine (same_yes env29 (va := r28) (xs := [4294967295, 4294967295]) (vb := r29) (ys := [4294967295, 4294967295]) (by simp) (by simp) rfl).mono ?_
  rintro e w30 ⟨rfl, env30⟩
  clear env29
  have env31 := env30.pop.pop
  clear env30
  go_wp2_with fail
  refine (lof_env (env31.lit2 0 1 0 1 rfl rfl (by decide) (by decide))).mono ?_
  rintro e w32 ⟨r32, rfl, env32⟩
  clear env31
  go_wp2_with fail
  refine (lof_env (env32.lit1 4294967295 4294967295 rfl (by decide))).mono ?_
  rintro e w33 ⟨r33, rfl, env33⟩
  clear env32
  go_wp2_with fail
  refine (cmp_is env33 (va := r32) (xs := [0, 1]) (vb := r33) (ys := [4294967295]) (by simp) (by simp) f8).mono ?_
  rintro e w34 ⟨rfl, env34⟩
  clear env33
  have env35 := env34.pop.pop
  clear env34
  go_wp2_with fail
  refine (lof_env (env35.lit2 1 2 1 2 rfl rfl (by decide) (by decide))).mono ?_
  rintro e w36 ⟨r36, rfl, env36⟩
  clear env35
  go_wp2_with fail
  refine (lof_env (env36.lit2 2 1 2 1 rfl rfl (by decide) (by decide))).mono ?_
  rintro e w37 ⟨r37, rfl, env37⟩
  clear env36
  go_wp2_with fail
  refine (cmp_is env37 (va := r36) (xs := [1, 2]) (vb := r37) (ys := [2, 1]) (by simp) (by simp) f9).mono ?_
  rintro e w38 ⟨rfl, env38⟩
  clear env37
  have env39 := env38.pop.pop
  clear env38
  go_wp2_with fail
  refine (lof_env (env39.lit1 1 1 rfl (by decide))).mono ?_
  rintro e w40 ⟨r40, rfl, env40⟩
  clear env39
  go_wp2_with fail
  refine (cmp_is env40 (va := (.slice none 0 0)) (xs := []) (vb := r40) (ys := [1]) (by simp) (by simp) f10).mono ?_
  rintro e w41 ⟨rfl, env41⟩
  clear env40
  have env42 := env41.pop
  clear env41
  go_wp2_with fail
  refine (cmp_is env42 (va := (.slice none 0 0)) (xs := []) (vb := (.slice none 0 0)) (ys := []) (by simp) (by simp) f11).mono ?_
  rintro e w43 ⟨rfl, env43⟩
  clear env42
  go_wp2_with fail
  refine (lof_env (env43.lit2 5 0 5 0 rfl rfl (by decide) (by decide))).mono ?_
  rintro e w44 ⟨r44, rfl, env44⟩
  clear env43
  go_wp2_with fail
  refine (low_is env44 (va := r44) (xs := [5, 0]) (by simp) (n := 0) (b := false) (by decide) (by decide)).mono ?_
  rintro e w45 ⟨rfl, env45⟩
  clear env44
  go_wp2_with fail
  refine (sub_is env45 (va := r44) (xs := [5, 0]) (vb := (.slice none 0 0)) (ys := []) (by simp) (by simp) (b := false) (by decide) f12).mono ?_
  rintro e w46 ⟨r46, rfl, env46⟩
  clear env45
  have env47 := env46.pop
  clear env46
  go_wp2_with fail
  refine (lof_env (env47.lit1 9 9 rfl (by decide))).mono ?_
  rintro e w48 ⟨r48, rfl, env48⟩
  clear env47
  go_wp2_with fail
  refine (sub_is env48 (va := r48) (xs := [9]) (vb := r44) (ys := [5, 0]) (by simp) (by simp) (b := false) (by decide) f13).mono ?_
  rintro e w49 ⟨r49, rfl, env49⟩
  clear env48
  have env50 := env49.pop.pop
  clear env49
  go_wp2_with fail
  refine (lof_env (env50.lit1 1 1 rfl (by decide))).mono ?_
  rintro e w51 ⟨r51, rfl, env51⟩
  clear env50
  go_wp2_with fail
  refine (add_is env51 (va := r44) (xs := [5, 0]) (vb := r51) (ys := [1]) (by simp) (by simp) f14).mono ?_
  rintro e w52 ⟨r52, rfl, env52⟩
  clear env51
  obtain ⟨A52, cap52, rfl, _⟩ := env52.get (v := r52) (xs := []) (by simp)
  have env53 := env52.pop.pop
  clear env52
  go_wp2_with fail
  refine (lof_env (env53.lit1 1 1 rfl (by decide))).mono ?_
  rintro e w54 ⟨r54, rfl, env54⟩
  clear env53
  go_wp2_with fail
  refine (add_is env54 (va := r54) (xs := [1]) (vb := r44) (ys := [5, 0]) (by simp) (by simp) f15).mono ?_
  rintro e w55 ⟨r55, rfl, env55⟩
  clear env54
  obtain ⟨A55, cap55, rfl, _⟩ := env55.get (v := r55) (xs := []) (by simp)
  have env56 := env55.pop.pop
  clear env55
  go_wp2_with fail
  refine (shl_is env56 (va := r44) (xs := [5, 0]) (by simp) f16).mono ?_
  rintro e w57 ⟨r57, rfl, env57⟩
  clear env56
  obtain ⟨A57, cap57, rfl, _⟩ := env57.get (v := r57) (xs := []) (by simp)
  have env58 := env57.pop
  clear env57
  go_wp2_with fail
  refine (shr_is env58 (va := r44) (xs := [5, 0]) (by simp) f17).mono ?_
  rintro e w59 ⟨r59, rfl, env59⟩
  clear env58
  obtain ⟨A59, cap59, rfl, _⟩ := env59.get (v := r59) (xs := []) (by simp)
  have env60 := env59.pop
  clear env59
  go_wp2_with fail
  refine (bits_is env60 (va := r44) (xs := [5, 0]) (by simp) f18).mono ?_
  rintro e w61 ⟨rfl, env61⟩
  clear env60
  go_wp2_with fail
  refine (bit_is env61 (va := r44) (xs := [5, 0]) (by simp) f19).mono ?_
  rintro e w62 ⟨rfl, env62⟩
  clear env61
  go_wp2_with fail
  refine (cmp_is env62 (va := r44) (xs := [5, 0]) (vb := (.slice none 0 0)) (ys := []) (by simp) (by simp) f20).mono ?_
  rintro e w63 ⟨rfl, env63⟩
  clear env62
  go_wp2_with fail
  refine (lof_env (env63.lit1 0 0 rfl (by decide))).mono ?_
  rintro e w64 ⟨r64, rfl, env64⟩
  clear env63
  go_wp2_with fail
  refine (may_is env64 (va := r64) (xs := [0]) (by simp) (b := false) (by decide)).mono ?_
  rintro e w65 ⟨rfl, env65⟩
  clear env64
  have env66 := env65.pop.pop
  clear env65
  go_wp2_with fail
  refine (bits_is env66 (va := (.slice none 0 0)) (xs := []) (by simp) sBits_nil).mono ?_
  rintro e w67 ⟨rfl, env67⟩
  clear env66
  go_wp2_with fail
  refine (lof_env (env67.lit2 0 1 0 1 rfl rfl (by decide) (by decide))).mono ?_
  rintro e w68 ⟨r68, rfl, env68⟩
  clear env67
  go_wp2_with fail
  refine (bits_is env68 (va := r68) (xs := [0, 1]) (by simp) f21).mono ?_
  rintro e w69 ⟨rfl, env69⟩
  clear env68
  have env70 := env69.pop
  clear env69
  go_wp2_with fail
  refine (lof_env (env70.lit1 4294967295 4294967295 rfl (by decide))).mono ?_
  rintro e w71 ⟨r71, rfl, env71⟩
  clear env70
  go_wp2_with fail
  refine (bits_is env71 (va := r71) (xs := [4294967295]) (by simp) f22).mono ?_
  rintro e w72 ⟨rfl, env72⟩
  clear env71
  have env73 := env72.pop
  clear env72
  go_wp2_with fail
  refine (lof_env (env73.lit2 0 1 0 1 rfl rfl (by decide) (by decide))).mono ?_
  rintro e w74 ⟨r74, rfl, env74⟩
  clear env73
  go_wp2_with fail
  refine (bit_is env74 (va := r74) (xs := [0, 1]) (by simp) f23).mono ?_
  rintro e w75 ⟨rfl, env75⟩
  clear env74
  have env76 := env75.pop
  clear env75
  go_wp2_with fail
  refine (lof_env (env76.lit2 0 1 0 1 rfl rfl (by decide) (by decide))).mono ?_
  rintro e w77 ⟨r77, rfl, env77⟩
  clear env76
  go_wp2_with fail
  refine (bit_is env77 (va := r77) (xs := [0, 1]) (by simp) f24).mono ?_
  rintro e w78 ⟨rfl, env78⟩
  clear env77
  have env79 := env78.pop
  clear env78
  go_wp2_with fail
  refine (lof_env (env79.lit1 1 1 rfl (by decide))).mono ?_
  rintro e w80 ⟨r80, rfl, env80⟩
  clear env79
  go_wp2_with fail
  refine (bit_is env80 (va := r80) (xs := [1]) (by simp) f25).mono ?_
  rintro e w81 ⟨rfl, env81⟩
  clear env80
  have env82 := env81.pop
  clear env81
  go_wp2_with fail
  refine (lof_env (env82.lit1 1 1 rfl (by decide))).mono ?_
  rintro e w83 ⟨r83, rfl, env83⟩
  clear env82
  go_wp2_with fail
  refine (bit_is env83 (va := r83) (xs := [1]) (by simp) f26).mono ?_
  rintro e w84 ⟨rfl, env84⟩
  clear env83
  have env85 := env84.pop
  clear env84
  go_wp2_with fail
  refine (lof_env (env85.lit1 1 1 rfl (by decide))).mono ?_
  rintro e w86 ⟨r86, rfl, env86⟩
  clear env85
  go_wp2_with fail
  refine (shl_is env86 (va := r86) (xs := [1]) (by simp) f27).mono ?_
  rintro e w87 ⟨r87, rfl, env87⟩
  clear env86
  obtain ⟨A87, cap87, rfl, _⟩ := env87.get (v := r87) (xs := []) (by simp)
  have env88 := env87.pop.pop
  clear env87
  go_wp2_with fail
  refine (lof_env (env88.lit1 1 1 rfl (by decide))).mono ?_
  rintro e w89 ⟨r89, rfl, env89⟩
  clear env88
  go_wp2_with fail
  refine (shr_is env89 (va := r89) (xs := [1]) (by simp) f28).mono ?_
  rintro e w90 ⟨r90, rfl, env90⟩
  clear env89
  obtain ⟨A90, cap90, rfl, _⟩ := env90.get (v := r90) (xs := []) (by simp)
  have env91 := env90.pop.pop
  clear env90
  go_wp2_with fail
  refine (lof_env (env91.lit1 1 1 rfl (by decide))).mono ?_
  rintro e w92 ⟨r92, rfl, env92⟩
  clear env91
  go_wp2_with fail
  refine (shr_is env92 (va := r92) (xs := [1]) (by simp) f29).mono ?_
  rintro e w93 ⟨r93, rfl, env93⟩
  clear env92
  obtain ⟨A93, cap93, rfl, _⟩ := env93.get (v := r93) (xs := []) (by simp)
  have env94 := env93.pop.pop
  clear env93
  go_wp2_with fail
  refine (lof_env (env94.lit1 1 1 rfl (by decide))).mono ?_
  rintro e w95 ⟨r95, rfl, env95⟩
  clear env94
  go_wp2_with fail
  refine (shr_is env95 (va := r95) (xs := [1]) (by simp) f30).mono ?_
  rintro e w96 ⟨r96, rfl, env96⟩
  clear env95
  obtain ⟨A96, cap96, rfl, _⟩ := env96.get (v := r96) (xs := []) (by simp)
  have env97 := env96.pop.pop
  clear env96
  go_wp2_with fail
  refine (shl_is env97 (va := (.slice none 0 0)) (xs := []) (by simp) f31).mono ?_
  rintro e w98 ⟨r98, rfl, env98⟩
  clear env97
  obtain ⟨A98, cap98, rfl, _⟩ := env98.get (v := r98) (xs := []) (by simp)
  have env99 := env98.pop
  clear env98
  go_wp2_with fail
  refine (lof_env (env99.lit1 4294967295 4294967295 rfl (by decide))).mono ?_
  rintro e w100 ⟨r100, rfl, env100⟩
  clear env99
  go_wp2_with fail
  refine (shl_is env100 (va := r100) (xs := [4294967295]) (by simp) f32).mono ?_
  rintro e w101 ⟨r101, rfl, env101⟩
  clear env100
  go_wp2_with fail
  refine (lof_env (env101.lit2 4294967280 15 4294967280 15 rfl rfl (by decide) (by decide))).mono ?_
  rintro e w102 ⟨r102, rfl, env102⟩
  clear env101
  go_wp2_with fail
  refine (same_yes env102 (va := r101) (xs := [4294967280, 15]) (vb := r102) (ys := [4294967280, 15]) (by simp) (by simp) rfl).mono ?_
  rintro e w103 ⟨rfl, env103⟩
  clear env102
  have env104 := env103.pop.pop.pop
  clear env103
  go_wp2_with fail
  refine (lof_env (env104.lit2 4294967295 4294967295 4294967295 4294967295 rfl rfl (by decide) (by decide))).mono ?_
  rintro e w105 ⟨r105, rfl, env105⟩
  clear env104
  go_wp2_with fail
  refine (shr_is env105 (va := r105) (xs := [4294967295, 4294967295]) (by simp) f33).mono ?_
  rintro e w106 ⟨r106, rfl, env106⟩
  clear env105
  go_wp2_with fail
  refine (lof_env (env106.lit2 4294967295 268435455 4294967295 268435455 rfl rfl (by decide) (by decide))).mono ?_
  rintro e w107 ⟨r107, rfl, env107⟩
  clear env106
  go_wp2_with fail
  refine (same_yes env107 (va := r106) (xs := [4294967295, 268435455]) (vb := r107) (ys := [4294967295, 268435455]) (by simp) (by simp) rfl).mono ?_
  rintro e w108 ⟨rfl, env108⟩
  clear env107
  have env109 := env108.pop.pop.pop
  clear env108
  go_wp2_with fail
  refine (lof_env (env109.lit1 3 3 rfl (by decide))).mono ?_
  rintro e w110 ⟨r110, rfl, env110⟩
  clear env109
  go_wp2_with fail
  refine (shl_is env110 (va := r110) (xs := [3]) (by simp) f34).mono ?_
  rintro e w111 ⟨r111, rfl, env111⟩
  clear env110
  go_wp2_with fail
  refine (lof_env (env111.lit3 0 0 3 0 0 3 rfl rfl rfl (by decide) (by decide) (by decide))).mono ?_
  rintro e w112 ⟨r112, rfl, env112⟩
  clear env111
  go_wp2_with fail
  refine (same_yes env112 (va := r111) (xs := [0, 0, 3]) (vb := r112) (ys := [0, 0, 3]) (by simp) (by simp) rfl).mono ?_
  rintro e w113 ⟨rfl, env113⟩
  clear env112
  have env114 := env113.pop.pop.pop
  clear env113
  go_wp2_with fail
  refine (lof_env (env114.lit3 1 2 3 1 2 3 rfl rfl rfl (by decide) (by decide) (by decide))).mono ?_
  rintro e w115 ⟨r115, rfl, env115⟩
  clear env114
  go_wp2_with fail
  refine (shr_is env115 (va := r115) (xs := [1, 2, 3]) (by simp) f35).mono ?_
  rintro e w116 ⟨r116, rfl, env116⟩
  clear env115
  go_wp2_with fail
  refine (lof_env (env116.lit2 2 3 2 3 rfl rfl (by decide) (by decide))).mono ?_
  rintro e w117 ⟨r117, rfl, env117⟩
  clear env116
  go_wp2_with fail
  refine (same_yes env117 (va := r116) (xs := [2, 3]) (vb := r117) (ys := [2, 3]) (by simp) (by simp) rfl).mono ?_
  rintro e w118 ⟨rfl, env118⟩
  clear env117
  have env119 := env118.pop.pop.pop
  clear env118
  have HB := Lib.hid env119.1
  clear env119
  go_wp2_with (at_make; refine wpList_make_full _ rfl _ _ 26 rfl w.heap.size 28 i0 (.int .u32 0) 1 Try.underlying26 hi hz0 hz1 .i64 .i64 _ _ 65536 rfl rfl rfl rfl (by rw [hz2]; decide) (by decide) HB.out.size ?_; intro w1 hown0 hgrow0)
  have hg : w.heap.size ≤ w118.heap.size := HB.out.size
  have hB1 : Below w.heap.size w w1 := HB.out.grown hgrow0 HB.out.size (fun _ h => by cases h)
  clear hgrow0
  go_loopw [21] (fun i wr => ∃ (k : Nat) (Z : List Value), k ≤ 65536 ∧ i = .int .i64 (k : Int) ∧ wr.ownsRow w.heap.size 28 1 (.slice (some ⟨w118.heap.size, 0, none⟩) 65536 65536) 65536 Z ∧ Hid (∀ j, j < k → Z[j]? = some (.int .u32 4294967295)) ∧ Below w.heap.size w wr) (fun i _ => 65536 - (intOf i).toNat)
  case atStart => exact ⟨0, _, Nat.zero_le _, rfl, hown0, fun j h => by omega, hB1⟩
  case round =>
    clear hown0 hB1
    obtain ⟨k, Z, hk, rfl, hown, hz, hB⟩ := hrel
    by_cases hlt : k < 65536
    · have hzl : Hid (Z.length = 65536) := by show _ = _; have := hown.1; omega
      have hcl := hown.cellAt k (by omega)
      obtain ⟨u, hu⟩ : ∃ u, Z[k]? = some u := ⟨_, List.getElem?_eq_getElem (by have := hzl.out; omega)⟩
      rw [hu] at hcl
      have hfz := hown.frozenAt k
      have hst := hown.stored k (.int .u32 4294967295)
      have hR1 := Lib.hid hst.1
      have hb0 := Lib.hid (hB.setCell (p := ⟨w118.heap.size, k, none⟩) hg (.int .u32 4294967295))
      have hz2' : Hid (∀ j, j < k + 1 → (Z.set k (.int .u32 4294967295))[j]? = some (.int .u32 4294967295)) := by
        intro j hj
        rcases Nat.lt_or_ge j k with h | h
        · rw [List.getElem?_set_ne (by omega)]; exact hz.out j h
        · obtain rfl : j = k := by omega
          rw [List.getElem?_set_self (by have := hzl.out; omega)]
      clear hst hown hu
      go_wp2
      go_roundw
      case rel => exact ⟨k + 1, _, by omega, by go_num, hR1.out, hz2'.out, hb0.out⟩
      case measure => simp [intOf]; omega
    · obtain ⟨Lg, hF, henv⟩ := full_env hB hown (fun j hj => hz.out j (by omega))
      have HF := Lib.hid hF
      have HV := Lib.hid henv
      clear hown hz hB hF henv
      go_wp2_with fail
      refine wp_mono (names_last2 w _ w118.heap.size Lg HF.out HV.out _ _ _ _ _ _ _ _ _ _ _ _ _ _ _ _ _ _ _ _ _ _ _ _ _ _ _ _ _ _ _ _ _ _ _ _ _ _ _ _ _ _ _ _ _ _ _ _ _ _ _ _ _ _ _ _ _ _ _ _ _ _ _ _ _ _ _ _ _ _ _ _ _ _ _ _ _ _ _ _ _ _ _ _ _ _ _ _ _ _ _ _ _ _ _ _ _ _ _ _ _ _ _ _ _ _ _ _ _ _ _ _ _ _ _ _ _ _ _ _ _ _ _ _ _ _ _ _ _ _ _ _ _ _ _ _ _ _ _ _ _ _ _ _ _ _ _ _ _ _ _ _ _ _ _ _ _ _ _ _ _ _ _ _ _ _ _ _ _ _ _ _ _ _ _ _ _ _ _ _ _ _ _ _ _ _ _ _ _ _ _ _ _ _ _ _ _ _ _ _ _ _ _ _ _ _ _ _ _ _ _ _ _ _ _ _ _ _ _ _ _ _ _ _ _ _ _ _ _ _ _ _ _ _ _ _ _ _ _ _ _ _ _ _ _ _ _ _ _ _ _ _ _ _ _ _ _ _ _ _ _ _ _ _ _ _ _ _ _ _ _ _ _ _ _ _ _ _ _ _ _ _ _ _ _ _ _ _ _ _ _ _ _ _ _ _ _ _ _ _ _ _ _ _ _ _ _ _ _ _ _ _ _ _ _ _ _ _ _ _ _ _ _ _ _ _ _ _ _ _ _ _ _ _ _ _ _ _ _ _ _ _ _ _ _ _ _ _ _ _ _ _ _ _ _ _ _ _ _ _ _ _ _ _ _ _ _) ?_
      intro e a' w' hp
      rcases e with _ | _ | _ | _ | _
      case normal =>
        obtain ⟨hB, hp⟩ := hp
        obtain ⟨u321, hp⟩ := hp
        obtain ⟨u322, hp⟩ := hp
        obtain ⟨u323, hp⟩ := hp
        obtain ⟨u324, hp⟩ := hp
        obtain ⟨u325, hp⟩ := hp
        obtain ⟨u326, hp⟩ := hp
        obtain ⟨u327, hp⟩ := hp
        obtain ⟨u328, hp⟩ := hp
        obtain ⟨u329, hp⟩ := hp
        obtain ⟨u330, hp⟩ := hp
        obtain ⟨u331, hp⟩ := hp
        obtain ⟨u332, hp⟩ := hp
        obtain ⟨u333, hp⟩ := hp
        obtain ⟨u334, hp⟩ := hp
        obtain ⟨u335, hp⟩ := hp
        obtain ⟨u336, hp⟩ := hp
        obtain ⟨u337, hp⟩ := hp
        obtain ⟨u338, hp⟩ := hp
        obtain ⟨u339, hp⟩ := hp
        obtain ⟨u340, hp⟩ := hp
        obtain ⟨u341, hp⟩ := hp
        obtain ⟨u342, hp⟩ := hp
        obtain ⟨u343, hp⟩ := hp
        obtain ⟨u344, hp⟩ := hp
        obtain ⟨u345, hp⟩ := hp
        obtain ⟨u346, hp⟩ := hp
        obtain ⟨u347, hp⟩ := hp
        obtain ⟨u348, hp⟩ := hp
        obtain ⟨u349, hp⟩ := hp
        obtain ⟨u350, hp⟩ := hp
        obtain ⟨u351, hp⟩ := hp
        obtain ⟨u352, hp⟩ := hp
        obtain ⟨u353, hp⟩ := hp
        obtain ⟨u354, hp⟩ := hp
        obtain ⟨u355, hp⟩ := hp
        obtain ⟨u356, hp⟩ := hp
        obtain ⟨u357, hp⟩ := hp
        obtain ⟨u358, hp⟩ := hp
        obtain ⟨u359, hp⟩ := hp
        obtain ⟨u360, hp⟩ := hp
        obtain ⟨u361, hp⟩ := hp
        obtain ⟨u362, hp⟩ := hp
        obtain ⟨u363, hp⟩ := hp
        obtain ⟨u364, hp⟩ := hp
        obtain ⟨u365, hp⟩ := hp
        obtain ⟨u366, hp⟩ := hp
        obtain ⟨u367, hp⟩ := hp
        subst hp
        have HB2 := Lib.hid hB
        clear hB
        go_wp2
        go_ret
        exact ⟨rfl, HB2.out⟩
      all_goals exact hp.elim

end Go.Proofs.Ytlfhpoffphljfaa
