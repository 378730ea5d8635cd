/- The words of the key of noughts, and a block of noughts encrypted under it, round by round. No claim of its own. -/
import Derived.Test.YtjmbkajdpighoaaAMath
namespace Go.Proofs.Ytjmbkajdpighoaa
open Go.RowKit

def z32 : List Int := List.replicate 32 0
def y16 : List Int := List.replicate 16 0
theorem wd_hi (i : Nat) (h : ¬ i < 8) : wd z32 i = xorl (wd z32 (i - 8)) (mid i (wd z32 (i - 1))) := by rw [wd_eq, if_neg h]
theorem wz0 : wd z32 0 = [0, 0, 0, 0] := by decide +kernel
theorem wz1 : wd z32 1 = [0, 0, 0, 0] := by decide +kernel
theorem wz2 : wd z32 2 = [0, 0, 0, 0] := by decide +kernel
theorem wz3 : wd z32 3 = [0, 0, 0, 0] := by decide +kernel
theorem wz4 : wd z32 4 = [0, 0, 0, 0] := by decide +kernel
theorem wz5 : wd z32 5 = [0, 0, 0, 0] := by decide +kernel
theorem wz6 : wd z32 6 = [0, 0, 0, 0] := by decide +kernel
theorem wz7 : wd z32 7 = [0, 0, 0, 0] := by decide +kernel
theorem wz8 : wd z32 8 = [98, 99, 99, 99] := by
  refine (wd_hi 8 (by decide)).trans ?_
  show xorl (wd z32 0) (mid 8 (wd z32 7)) = _
  rw [wz0, wz7]; decide +kernel
theorem wz9 : wd z32 9 = [98, 99, 99, 99] := by
  refine (wd_hi 9 (by decide)).trans ?_
  show xorl (wd z32 1) (mid 9 (wd z32 8)) = _
  rw [wz1, wz8]; decide +kernel
theorem wz10 : wd z32 10 = [98, 99, 99, 99] := by
  refine (wd_hi 10 (by decide)).trans ?_
  show xorl (wd z32 2) (mid 10 (wd z32 9)) = _
  rw [wz2, wz9]; decide +kernel
theorem wz11 : wd z32 11 = [98, 99, 99, 99] := by
  refine (wd_hi 11 (by decide)).trans ?_
  show xorl (wd z32 3) (mid 11 (wd z32 10)) = _
  rw [wz3, wz10]; decide +kernel
theorem wz12 : wd z32 12 = [170, 251, 251, 251] := by
  refine (wd_hi 12 (by decide)).trans ?_
  show xorl (wd z32 4) (mid 12 (wd z32 11)) = _
  rw [wz4, wz11]; decide +kernel
theorem wz13 : wd z32 13 = [170, 251, 251, 251] := by
  refine (wd_hi 13 (by decide)).trans ?_
  show xorl (wd z32 5) (mid 13 (wd z32 12)) = _
  rw [wz5, wz12]; decide +kernel
theorem wz14 : wd z32 14 = [170, 251, 251, 251] := by
  refine (wd_hi 14 (by decide)).trans ?_
  show xorl (wd z32 6) (mid 14 (wd z32 13)) = _
  rw [wz6, wz13]; decide +kernel
theorem wz15 : wd z32 15 = [170, 251, 251, 251] := by
  refine (wd_hi 15 (by decide)).trans ?_
  show xorl (wd z32 7) (mid 15 (wd z32 14)) = _
  rw [wz7, wz14]; decide +kernel
theorem wz16 : wd z32 16 = [111, 108, 108, 207] := by
  refine (wd_hi 16 (by decide)).trans ?_
  show xorl (wd z32 8) (mid 16 (wd z32 15)) = _
  rw [wz8, wz15]; decide +kernel
theorem wz17 : wd z32 17 = [13, 15, 15, 172] := by
  refine (wd_hi 17 (by decide)).trans ?_
  show xorl (wd z32 9) (mid 17 (wd z32 16)) = _
  rw [wz9, wz16]; decide +kernel
theorem wz18 : wd z32 18 = [111, 108, 108, 207] := by
  refine (wd_hi 18 (by decide)).trans ?_
  show xorl (wd z32 10) (mid 18 (wd z32 17)) = _
  rw [wz10, wz17]; decide +kernel
theorem wz19 : wd z32 19 = [13, 15, 15, 172] := by
  refine (wd_hi 19 (by decide)).trans ?_
  show xorl (wd z32 11) (mid 19 (wd z32 18)) = _
  rw [wz11, wz18]; decide +kernel
theorem wz20 : wd z32 20 = [125, 141, 141, 106] := by
  refine (wd_hi 20 (by decide)).trans ?_
  show xorl (wd z32 12) (mid 20 (wd z32 19)) = _
  rw [wz12, wz19]; decide +kernel
theorem wz21 : wd z32 21 = [215, 118, 118, 145] := by
  refine (wd_hi 21 (by decide)).trans ?_
  show xorl (wd z32 13) (mid 21 (wd z32 20)) = _
  rw [wz13, wz20]; decide +kernel
theorem wz22 : wd z32 22 = [125, 141, 141, 106] := by
  refine (wd_hi 22 (by decide)).trans ?_
  show xorl (wd z32 14) (mid 22 (wd z32 21)) = _
  rw [wz14, wz21]; decide +kernel
theorem wz23 : wd z32 23 = [215, 118, 118, 145] := by
  refine (wd_hi 23 (by decide)).trans ?_
  show xorl (wd z32 15) (mid 23 (wd z32 22)) = _
  rw [wz15, wz22]; decide +kernel
theorem wz24 : wd z32 24 = [83, 84, 237, 193] := by
  refine (wd_hi 24 (by decide)).trans ?_
  show xorl (wd z32 16) (mid 24 (wd z32 23)) = _
  rw [wz16, wz23]; decide +kernel
theorem wz25 : wd z32 25 = [94, 91, 226, 109] := by
  refine (wd_hi 25 (by decide)).trans ?_
  show xorl (wd z32 17) (mid 25 (wd z32 24)) = _
  rw [wz17, wz24]; decide +kernel
theorem wz26 : wd z32 26 = [49, 55, 142, 162] := by
  refine (wd_hi 26 (by decide)).trans ?_
  show xorl (wd z32 18) (mid 26 (wd z32 25)) = _
  rw [wz18, wz25]; decide +kernel
theorem wz27 : wd z32 27 = [60, 56, 129, 14] := by
  refine (wd_hi 27 (by decide)).trans ?_
  show xorl (wd z32 19) (mid 27 (wd z32 26)) = _
  rw [wz19, wz26]; decide +kernel
theorem wz28 : wd z32 28 = [150, 138, 129, 193] := by
  refine (wd_hi 28 (by decide)).trans ?_
  show xorl (wd z32 20) (mid 28 (wd z32 27)) = _
  rw [wz20, wz27]; decide +kernel
theorem wz29 : wd z32 29 = [65, 252, 247, 80] := by
  refine (wd_hi 29 (by decide)).trans ?_
  show xorl (wd z32 21) (mid 29 (wd z32 28)) = _
  rw [wz21, wz28]; decide +kernel
theorem wz30 : wd z32 30 = [60, 113, 122, 58] := by
  refine (wd_hi 30 (by decide)).trans ?_
  show xorl (wd z32 22) (mid 30 (wd z32 29)) = _
  rw [wz22, wz29]; decide +kernel
theorem wz31 : wd z32 31 = [235, 7, 12, 171] := by
  refine (wd_hi 31 (by decide)).trans ?_
  show xorl (wd z32 23) (mid 31 (wd z32 30)) = _
  rw [wz23, wz30]; decide +kernel
theorem wz32 : wd z32 32 = [158, 170, 143, 40] := by
  refine (wd_hi 32 (by decide)).trans ?_
  show xorl (wd z32 24) (mid 32 (wd z32 31)) = _
  rw [wz24, wz31]; decide +kernel
theorem wz33 : wd z32 33 = [192, 241, 109, 69] := by
  refine (wd_hi 33 (by decide)).trans ?_
  show xorl (wd z32 25) (mid 33 (wd z32 32)) = _
  rw [wz25, wz32]; decide +kernel
theorem wz34 : wd z32 34 = [241, 198, 227, 231] := by
  refine (wd_hi 34 (by decide)).trans ?_
  show xorl (wd z32 26) (mid 34 (wd z32 33)) = _
  rw [wz26, wz33]; decide +kernel
theorem wz35 : wd z32 35 = [205, 254, 98, 233] := by
  refine (wd_hi 35 (by decide)).trans ?_
  show xorl (wd z32 27) (mid 35 (wd z32 34)) = _
  rw [wz27, wz34]; decide +kernel
theorem wz36 : wd z32 36 = [43, 49, 43, 223] := by
  refine (wd_hi 36 (by decide)).trans ?_
  show xorl (wd z32 28) (mid 36 (wd z32 35)) = _
  rw [wz28, wz35]; decide +kernel
theorem wz37 : wd z32 37 = [106, 205, 220, 143] := by
  refine (wd_hi 37 (by decide)).trans ?_
  show xorl (wd z32 29) (mid 37 (wd z32 36)) = _
  rw [wz29, wz36]; decide +kernel
theorem wz38 : wd z32 38 = [86, 188, 166, 181] := by
  refine (wd_hi 38 (by decide)).trans ?_
  show xorl (wd z32 30) (mid 38 (wd z32 37)) = _
  rw [wz30, wz37]; decide +kernel
theorem wz39 : wd z32 39 = [189, 187, 170, 30] := by
  refine (wd_hi 39 (by decide)).trans ?_
  show xorl (wd z32 31) (mid 39 (wd z32 38)) = _
  rw [wz31, wz38]; decide +kernel
theorem wz40 : wd z32 40 = [100, 6, 253, 82] := by
  refine (wd_hi 40 (by decide)).trans ?_
  show xorl (wd z32 32) (mid 40 (wd z32 39)) = _
  rw [wz32, wz39]; decide +kernel
theorem wz41 : wd z32 41 = [164, 247, 144, 23] := by
  refine (wd_hi 41 (by decide)).trans ?_
  show xorl (wd z32 33) (mid 41 (wd z32 40)) = _
  rw [wz33, wz40]; decide +kernel
theorem wz42 : wd z32 42 = [85, 49, 115, 240] := by
  refine (wd_hi 42 (by decide)).trans ?_
  show xorl (wd z32 34) (mid 42 (wd z32 41)) = _
  rw [wz34, wz41]; decide +kernel
theorem wz43 : wd z32 43 = [152, 207, 17, 25] := by
  refine (wd_hi 43 (by decide)).trans ?_
  show xorl (wd z32 35) (mid 43 (wd z32 42)) = _
  rw [wz35, wz42]; decide +kernel
theorem wz44 : wd z32 44 = [109, 187, 169, 11] := by
  refine (wd_hi 44 (by decide)).trans ?_
  show xorl (wd z32 36) (mid 44 (wd z32 43)) = _
  rw [wz36, wz43]; decide +kernel
theorem wz45 : wd z32 45 = [7, 118, 117, 132] := by
  refine (wd_hi 45 (by decide)).trans ?_
  show xorl (wd z32 37) (mid 45 (wd z32 44)) = _
  rw [wz37, wz44]; decide +kernel
theorem wz46 : wd z32 46 = [81, 202, 211, 49] := by
  refine (wd_hi 46 (by decide)).trans ?_
  show xorl (wd z32 38) (mid 46 (wd z32 45)) = _
  rw [wz38, wz45]; decide +kernel
theorem wz47 : wd z32 47 = [236, 113, 121, 47] := by
  refine (wd_hi 47 (by decide)).trans ?_
  show xorl (wd z32 39) (mid 47 (wd z32 46)) = _
  rw [wz39, wz46]; decide +kernel
theorem wz48 : wd z32 48 = [231, 176, 232, 156] := by
  refine (wd_hi 48 (by decide)).trans ?_
  show xorl (wd z32 40) (mid 48 (wd z32 47)) = _
  rw [wz40, wz47]; decide +kernel
theorem wz49 : wd z32 49 = [67, 71, 120, 139] := by
  refine (wd_hi 49 (by decide)).trans ?_
  show xorl (wd z32 41) (mid 49 (wd z32 48)) = _
  rw [wz41, wz48]; decide +kernel
theorem wz50 : wd z32 50 = [22, 118, 11, 123] := by
  refine (wd_hi 50 (by decide)).trans ?_
  show xorl (wd z32 42) (mid 50 (wd z32 49)) = _
  rw [wz42, wz49]; decide +kernel
theorem wz51 : wd z32 51 = [142, 185, 26, 98] := by
  refine (wd_hi 51 (by decide)).trans ?_
  show xorl (wd z32 43) (mid 51 (wd z32 50)) = _
  rw [wz43, wz50]; decide +kernel
theorem wz52 : wd z32 52 = [116, 237, 11, 161] := by
  refine (wd_hi 52 (by decide)).trans ?_
  show xorl (wd z32 44) (mid 52 (wd z32 51)) = _
  rw [wz44, wz51]; decide +kernel
theorem wz53 : wd z32 53 = [115, 155, 126, 37] := by
  refine (wd_hi 53 (by decide)).trans ?_
  show xorl (wd z32 45) (mid 53 (wd z32 52)) = _
  rw [wz45, wz52]; decide +kernel
theorem wz54 : wd z32 54 = [34, 81, 173, 20] := by
  refine (wd_hi 54 (by decide)).trans ?_
  show xorl (wd z32 46) (mid 54 (wd z32 53)) = _
  rw [wz46, wz53]; decide +kernel
theorem wz55 : wd z32 55 = [206, 32, 212, 59] := by
  refine (wd_hi 55 (by decide)).trans ?_
  show xorl (wd z32 47) (mid 55 (wd z32 54)) = _
  rw [wz47, wz54]; decide +kernel
theorem wz56 : wd z32 56 = [16, 248, 10, 23] := by
  refine (wd_hi 56 (by decide)).trans ?_
  show xorl (wd z32 48) (mid 56 (wd z32 55)) = _
  rw [wz48, wz55]; decide +kernel
theorem wz57 : wd z32 57 = [83, 191, 114, 156] := by
  refine (wd_hi 57 (by decide)).trans ?_
  show xorl (wd z32 49) (mid 57 (wd z32 56)) = _
  rw [wz49, wz56]; decide +kernel
theorem wz58 : wd z32 58 = [69, 201, 121, 231] := by
  refine (wd_hi 58 (by decide)).trans ?_
  show xorl (wd z32 50) (mid 58 (wd z32 57)) = _
  rw [wz50, wz57]; decide +kernel
theorem wz59 : wd z32 59 = [203, 112, 99, 133] := by
  refine (wd_hi 59 (by decide)).trans ?_
  show xorl (wd z32 51) (mid 59 (wd z32 58)) = _
  rw [wz51, wz58]; decide +kernel
theorem rz0 : rk z32 0 = [0, 0, 0, 0, 0, 0, 0, 0, 0, 0, 0, 0, 0, 0, 0, 0] := by
  show wd z32 0 ++ wd z32 1 ++ wd z32 2 ++ wd z32 3 = _
  rw [wz0, wz1, wz2, wz3]; rfl
theorem rz1 : rk z32 1 = [0, 0, 0, 0, 0, 0, 0, 0, 0, 0, 0, 0, 0, 0, 0, 0] := by
  show wd z32 4 ++ wd z32 5 ++ wd z32 6 ++ wd z32 7 = _
  rw [wz4, wz5, wz6, wz7]; rfl
theorem rz2 : rk z32 2 = [98, 99, 99, 99, 98, 99, 99, 99, 98, 99, 99, 99, 98, 99, 99, 99] := by
  show wd z32 8 ++ wd z32 9 ++ wd z32 10 ++ wd z32 11 = _
  rw [wz8, wz9, wz10, wz11]; rfl
theorem rz3 : rk z32 3 = [170, 251, 251, 251, 170, 251, 251, 251, 170, 251, 251, 251, 170, 251, 251, 251] := by
  show wd z32 12 ++ wd z32 13 ++ wd z32 14 ++ wd z32 15 = _
  rw [wz12, wz13, wz14, wz15]; rfl
theorem rz4 : rk z32 4 = [111, 108, 108, 207, 13, 15, 15, 172, 111, 108, 108, 207, 13, 15, 15, 172] := by
  show wd z32 16 ++ wd z32 17 ++ wd z32 18 ++ wd z32 19 = _
  rw [wz16, wz17, wz18, wz19]; rfl
theorem rz5 : rk z32 5 = [125, 141, 141, 106, 215, 118, 118, 145, 125, 141, 141, 106, 215, 118, 118, 145] := by
  show wd z32 20 ++ wd z32 21 ++ wd z32 22 ++ wd z32 23 = _
  rw [wz20, wz21, wz22, wz23]; rfl
theorem rz6 : rk z32 6 = [83, 84, 237, 193, 94, 91, 226, 109, 49, 55, 142, 162, 60, 56, 129, 14] := by
  show wd z32 24 ++ wd z32 25 ++ wd z32 26 ++ wd z32 27 = _
  rw [wz24, wz25, wz26, wz27]; rfl
theorem rz7 : rk z32 7 = [150, 138, 129, 193, 65, 252, 247, 80, 60, 113, 122, 58, 235, 7, 12, 171] := by
  show wd z32 28 ++ wd z32 29 ++ wd z32 30 ++ wd z32 31 = _
  rw [wz28, wz29, wz30, wz31]; rfl
theorem rz8 : rk z32 8 = [158, 170, 143, 40, 192, 241, 109, 69, 241, 198, 227, 231, 205, 254, 98, 233] := by
  show wd z32 32 ++ wd z32 33 ++ wd z32 34 ++ wd z32 35 = _
  rw [wz32, wz33, wz34, wz35]; rfl
theorem rz9 : rk z32 9 = [43, 49, 43, 223, 106, 205, 220, 143, 86, 188, 166, 181, 189, 187, 170, 30] := by
  show wd z32 36 ++ wd z32 37 ++ wd z32 38 ++ wd z32 39 = _
  rw [wz36, wz37, wz38, wz39]; rfl
theorem rz10 : rk z32 10 = [100, 6, 253, 82, 164, 247, 144, 23, 85, 49, 115, 240, 152, 207, 17, 25] := by
  show wd z32 40 ++ wd z32 41 ++ wd z32 42 ++ wd z32 43 = _
  rw [wz40, wz41, wz42, wz43]; rfl
theorem rz11 : rk z32 11 = [109, 187, 169, 11, 7, 118, 117, 132, 81, 202, 211, 49, 236, 113, 121, 47] := by
  show wd z32 44 ++ wd z32 45 ++ wd z32 46 ++ wd z32 47 = _
  rw [wz44, wz45, wz46, wz47]; rfl
theorem rz12 : rk z32 12 = [231, 176, 232, 156, 67, 71, 120, 139, 22, 118, 11, 123, 142, 185, 26, 98] := by
  show wd z32 48 ++ wd z32 49 ++ wd z32 50 ++ wd z32 51 = _
  rw [wz48, wz49, wz50, wz51]; rfl
theorem rz13 : rk z32 13 = [116, 237, 11, 161, 115, 155, 126, 37, 34, 81, 173, 20, 206, 32, 212, 59] := by
  show wd z32 52 ++ wd z32 53 ++ wd z32 54 ++ wd z32 55 = _
  rw [wz52, wz53, wz54, wz55]; rfl
theorem rz14 : rk z32 14 = [16, 248, 10, 23, 83, 191, 114, 156, 69, 201, 121, 231, 203, 112, 99, 133] := by
  show wd z32 56 ++ wd z32 57 ++ wd z32 58 ++ wd z32 59 = _
  rw [wz56, wz57, wz58, wz59]; rfl
theorem ez0 : enc z32 y16 0 = [0, 0, 0, 0, 0, 0, 0, 0, 0, 0, 0, 0, 0, 0, 0, 0] := by
  show xorl y16 (rk z32 0) = _
  rw [rz0]; decide +kernel
theorem ez1 : enc z32 y16 1 = [99, 99, 99, 99, 99, 99, 99, 99, 99, 99, 99, 99, 99, 99, 99, 99] := by
  show xorl (mx 1 (shl16 (looked ptab (enc z32 y16 0)) 1)) (rk z32 1) = _
  rw [ez0, rz1]; decide +kernel
theorem ez2 : enc z32 y16 2 = [153, 152, 152, 152, 153, 152, 152, 152, 153, 152, 152, 152, 153, 152, 152, 152] := by
  show xorl (mx 2 (shl16 (looked ptab (enc z32 y16 1)) 1)) (rk z32 2) = _
  rw [ez1, rz2]; decide +kernel
theorem ez3 : enc z32 y16 3 = [167, 21, 21, 94, 167, 21, 21, 94, 167, 21, 21, 94, 167, 21, 21, 94] := by
  show xorl (mx 3 (shl16 (looked ptab (enc z32 y16 2)) 1)) (rk z32 3) = _
  rw [ez2, rz3]; decide +kernel
theorem ez4 : enc z32 y16 4 = [61, 49, 51, 155, 95, 82, 80, 248, 61, 49, 51, 155, 95, 82, 80, 248] := by
  show xorl (mx 4 (shl16 (looked ptab (enc z32 y16 3)) 1)) (rk z32 4) = _
  rw [ez3, rz4]; decide +kernel
theorem ez5 : enc z32 y16 5 = [177, 181, 244, 66, 71, 205, 228, 103, 177, 181, 244, 66, 71, 205, 228, 103] := by
  show xorl (mx 5 (shl16 (looked ptab (enc z32 y16 4)) 1)) (rk z32 5) = _
  rw [ez4, rz5]; decide +kernel
theorem ez6 : enc z32 y16 6 = [62, 162, 105, 145, 36, 221, 49, 114, 92, 193, 10, 242, 70, 190, 82, 17] := by
  show xorl (mx 6 (shl16 (looked ptab (enc z32 y16 5)) 1)) (rk z32 6) = _
  rw [ez5, rz6]; decide +kernel
theorem ez7 : enc z32 y16 7 = [84, 138, 161, 181, 36, 187, 33, 107, 248, 44, 183, 51, 95, 242, 121, 177] := by
  show xorl (mx 7 (shl16 (looked ptab (enc z32 y16 6)) 1)) (rk z32 7) = _
  rw [ez6, rz7]; decide +kernel
theorem ez8 : enc z32 y16 8 = [154, 109, 79, 128, 92, 49, 57, 105, 190, 167, 206, 97, 244, 18, 108, 189] := by
  show xorl (mx 8 (shl16 (looked ptab (enc z32 y16 7)) 1)) (rk z32 8) = _
  rw [ez7, rz8]; decide +kernel
theorem ez9 : enc z32 y16 9 = [227, 224, 215, 180, 135, 2, 38, 220, 44, 245, 194, 248, 97, 165, 39, 47] := by
  show xorl (mx 9 (shl16 (looked ptab (enc z32 y16 8)) 1)) (rk z32 9) = _
  rw [ez8, rz9]; decide +kernel
theorem ez10 : enc z32 y16 10 = [239, 131, 238, 25, 250, 245, 110, 5, 53, 216, 137, 124, 211, 186, 41, 167] := by
  show xorl (mx 10 (shl16 (looked ptab (enc z32 y16 9)) 1)) (rk z32 10) = _
  rw [ez9, rz10]; decide +kernel
theorem ez11 : enc z32 y16 11 = [2, 29, 33, 136, 143, 185, 15, 132, 34, 188, 92, 154, 128, 126, 230, 214] := by
  show xorl (mx 11 (shl16 (looked ptab (enc z32 y16 10)) 1)) (rk z32 11) = _
  rw [ez10, rz11]; decide +kernel
theorem ez12 : enc z32 y16 12 = [79, 67, 92, 238, 64, 179, 62, 102, 135, 91, 107, 101, 54, 5, 76, 151] := by
  show xorl (mx 12 (shl16 (looked ptab (enc z32 y16 11)) 1)) (rk z32 12) = _
  rw [ez11, rz12]; decide +kernel
theorem ez13 : enc z32 y16 13 = [39, 186, 159, 47, 43, 179, 100, 126, 200, 125, 16, 106, 21, 145, 99, 6] := by
  show xorl (mx 13 (shl16 (looked ptab (enc z32 y16 12)) 1)) (rk z32 13) = _
  rw [ez12, rz13]; decide +kernel
theorem ez14 : enc z32 y16 14 = [220, 149, 192, 120, 162, 64, 137, 137, 173, 72, 162, 20, 146, 132, 32, 135] := by
  show xorl (mx 14 (shl16 (looked ptab (enc z32 y16 13)) 1)) (rk z32 14) = _
  rw [ez13, rz14]; decide +kernel
theorem zero_block : gb (encr z32 y16) 0 = 220 ∧ gb (encr z32 y16) 15 = 135 := by
  show gb (enc z32 y16 14) 0 = 220 ∧ gb (enc z32 y16 14) 15 = 135
  rw [ez14]; exact ⟨rfl, rfl⟩
end Go.Proofs.Ytjmbkajdpighoaa
