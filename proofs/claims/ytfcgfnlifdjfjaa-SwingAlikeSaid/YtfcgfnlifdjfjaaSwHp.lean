/- Swing: rows by numbers. -/
import Derived.Test.YtfcgfnlifdjfjaaSwHz
import Derived.KernelRfl
namespace Go.Proofs.Ytfcgfnlifdjfjaa
open Go.Ab Go.RowKit
theorem row_0 (b : Int) (K' : Value → Bool) : rowRun b 0 K' = K' (.string (mkR 1 b)) := by kernel_rfl
theorem row_1 (b : Int) (K' : Value → Bool) : rowRun b 1 K' = K' (.string (mkR 2 b)) := by kernel_rfl
theorem row_2 (b : Int) (K' : Value → Bool) : rowRun b 2 K' = K' (.string (mkR 3 b)) := by kernel_rfl
theorem row_3 (b : Int) (K' : Value → Bool) : rowRun b 3 K' = K' (.string (mkR 4 b)) := by kernel_rfl
theorem row_4 (b : Int) (K' : Value → Bool) : rowRun b 4 K' = K' (.string (mkR 5 b)) := by kernel_rfl
theorem row_5 (b : Int) (K' : Value → Bool) : rowRun b 5 K' = K' (.string (mkR 6 b)) := by kernel_rfl
theorem row_6 (b : Int) (K' : Value → Bool) : rowRun b 6 K' = K' (.string (mkR 7 b)) := by kernel_rfl
theorem row_7 (b : Int) (K' : Value → Bool) : rowRun b 7 K' = K' (.string (mkR 8 b)) := by kernel_rfl
theorem row_8 (b : Int) (K' : Value → Bool) : rowRun b 8 K' = K' (.string (mkR 9 b)) := by kernel_rfl
theorem row_9 (b : Int) (K' : Value → Bool) : rowRun b 9 K' = K' (.string (mkR 10 b)) := by kernel_rfl
theorem row_10 (b : Int) (K' : Value → Bool) : rowRun b 10 K' = K' (.string (mkR 11 b)) := by kernel_rfl
theorem row_11 (b : Int) (K' : Value → Bool) : rowRun b 11 K' = K' (.string (mkR 12 b)) := by kernel_rfl
theorem row_12 (b : Int) (K' : Value → Bool) : rowRun b 12 K' = K' (.string (mkR 13 b)) := by kernel_rfl
theorem row_13 (b : Int) (K' : Value → Bool) : rowRun b 13 K' = K' (.string (mkR 14 b)) := by kernel_rfl
theorem row_14 (b : Int) (K' : Value → Bool) : rowRun b 14 K' = K' (.string (mkR 15 b)) := by kernel_rfl
theorem row_15 (b : Int) (K' : Value → Bool) : rowRun b 15 K' = K' (.string (mkR 16 b)) := by kernel_rfl
theorem row_16 (b : Int) (K' : Value → Bool) : rowRun b 16 K' = K' (.string (mkR 17 b)) := by kernel_rfl
theorem row_17 (b : Int) (K' : Value → Bool) : rowRun b 17 K' = K' (.string (mkR 18 b)) := by kernel_rfl
theorem row_18 (b : Int) (K' : Value → Bool) : rowRun b 18 K' = K' (.string (mkR 19 b)) := by kernel_rfl
theorem row_19 (b : Int) (K' : Value → Bool) : rowRun b 19 K' = K' (.string (mkR 20 b)) := by kernel_rfl
theorem row_20 (b : Int) (K' : Value → Bool) : rowRun b 20 K' = K' (.string (mkR 21 b)) := by kernel_rfl
theorem row_21 (b : Int) (K' : Value → Bool) : rowRun b 21 K' = K' (.string (mkR 22 b)) := by kernel_rfl
theorem row_22 (b : Int) (K' : Value → Bool) : rowRun b 22 K' = K' (.string (mkR 23 b)) := by kernel_rfl
theorem row_23 (b : Int) (K' : Value → Bool) : rowRun b 23 K' = K' (.string (mkR 24 b)) := by kernel_rfl
theorem row_24 (b : Int) (K' : Value → Bool) : rowRun b 24 K' = K' (.string (mkR 25 b)) := by kernel_rfl
theorem row_25 (b : Int) (K' : Value → Bool) : rowRun b 25 K' = K' (.string (mkR 26 b)) := by kernel_rfl
theorem row_26 (b : Int) (K' : Value → Bool) : rowRun b 26 K' = K' (.string (mkR 27 b)) := by kernel_rfl
theorem row_27 (b : Int) (K' : Value → Bool) : rowRun b 27 K' = K' (.string (mkR 28 b)) := by kernel_rfl
theorem row_28 (b : Int) (K' : Value → Bool) : rowRun b 28 K' = K' (.string (mkR 29 b)) := by kernel_rfl
theorem row_29 (b : Int) (K' : Value → Bool) : rowRun b 29 K' = K' (.string (mkR 30 b)) := by kernel_rfl
theorem row_30 (b : Int) (K' : Value → Bool) : rowRun b 30 K' = K' (.string (mkR 31 b)) := by kernel_rfl
theorem row_31 (b : Int) (K' : Value → Bool) : rowRun b 31 K' = K' (.string (mkR 32 b)) := by kernel_rfl
theorem row_32 (b : Int) (K' : Value → Bool) : rowRun b 32 K' = K' (.string (mkR 33 b)) := by kernel_rfl
theorem row_33 (b : Int) (K' : Value → Bool) : rowRun b 33 K' = K' (.string (mkR 34 b)) := by kernel_rfl
theorem row_34 (b : Int) (K' : Value → Bool) : rowRun b 34 K' = K' (.string (mkR 35 b)) := by kernel_rfl
theorem row_35 (b : Int) (K' : Value → Bool) : rowRun b 35 K' = K' (.string (mkR 36 b)) := by kernel_rfl
theorem row_36 (b : Int) (K' : Value → Bool) : rowRun b 36 K' = K' (.string (mkR 37 b)) := by kernel_rfl
theorem row_37 (b : Int) (K' : Value → Bool) : rowRun b 37 K' = K' (.string (mkR 38 b)) := by kernel_rfl
theorem row_38 (b : Int) (K' : Value → Bool) : rowRun b 38 K' = K' (.string (mkR 39 b)) := by kernel_rfl
theorem row_39 (b : Int) (K' : Value → Bool) : rowRun b 39 K' = K' (.string (mkR 40 b)) := by kernel_rfl
theorem row_40 (b : Int) (K' : Value → Bool) : rowRun b 40 K' = K' (.string (mkR 41 b)) := by kernel_rfl
theorem row_41 (b : Int) (K' : Value → Bool) : rowRun b 41 K' = K' (.string (mkR 42 b)) := by kernel_rfl
theorem row_42 (b : Int) (K' : Value → Bool) : rowRun b 42 K' = K' (.string (mkR 43 b)) := by kernel_rfl
theorem row_43 (b : Int) (K' : Value → Bool) : rowRun b 43 K' = K' (.string (mkR 44 b)) := by kernel_rfl
theorem row_44 (b : Int) (K' : Value → Bool) : rowRun b 44 K' = K' (.string (mkR 45 b)) := by kernel_rfl
theorem row_45 (b : Int) (K' : Value → Bool) : rowRun b 45 K' = K' (.string (mkR 46 b)) := by kernel_rfl
theorem row_46 (b : Int) (K' : Value → Bool) : rowRun b 46 K' = K' (.string (mkR 47 b)) := by kernel_rfl
theorem row_47 (b : Int) (K' : Value → Bool) : rowRun b 47 K' = K' (.string (mkR 48 b)) := by kernel_rfl
theorem row_48 (b : Int) (K' : Value → Bool) : rowRun b 48 K' = K' (.string (mkR 49 b)) := by kernel_rfl
theorem row_49 (b : Int) (K' : Value → Bool) : rowRun b 49 K' = K' (.string (mkR 50 b)) := by kernel_rfl
theorem row_50 (b : Int) (K' : Value → Bool) : rowRun b 50 K' = K' (.string (mkR 51 b)) := by kernel_rfl
theorem row_51 (b : Int) (K' : Value → Bool) : rowRun b 51 K' = K' (.string (mkR 52 b)) := by kernel_rfl
theorem row_52 (b : Int) (K' : Value → Bool) : rowRun b 52 K' = K' (.string (mkR 53 b)) := by kernel_rfl
theorem row_53 (b : Int) (K' : Value → Bool) : rowRun b 53 K' = K' (.string (mkR 54 b)) := by kernel_rfl
theorem row_54 (b : Int) (K' : Value → Bool) : rowRun b 54 K' = K' (.string (mkR 55 b)) := by kernel_rfl
theorem row_55 (b : Int) (K' : Value → Bool) : rowRun b 55 K' = K' (.string (mkR 56 b)) := by kernel_rfl
theorem row_56 (b : Int) (K' : Value → Bool) : rowRun b 56 K' = K' (.string (mkR 57 b)) := by kernel_rfl
theorem row_57 (b : Int) (K' : Value → Bool) : rowRun b 57 K' = K' (.string (mkR 58 b)) := by kernel_rfl
theorem row_58 (b : Int) (K' : Value → Bool) : rowRun b 58 K' = K' (.string (mkR 59 b)) := by kernel_rfl
theorem row_59 (b : Int) (K' : Value → Bool) : rowRun b 59 K' = K' (.string (mkR 60 b)) := by kernel_rfl
theorem row_60 (b : Int) (K' : Value → Bool) : rowRun b 60 K' = K' (.string (mkR 61 b)) := by kernel_rfl
theorem row_61 (b : Int) (K' : Value → Bool) : rowRun b 61 K' = K' (.string (mkR 62 b)) := by kernel_rfl
theorem row_62 (b : Int) (K' : Value → Bool) : rowRun b 62 K' = K' (.string (mkR 63 b)) := by kernel_rfl
theorem row_63 (b : Int) (K' : Value → Bool) : rowRun b 63 K' = K' (.string (mkR 64 b)) := by kernel_rfl
theorem rows_0 (b : Int) (r : Nat) (hr : r < 16) (K' : Value → Bool) : rowRun b (0 + r) K' = K' (.string (mkR ((0 + r) % 64 + 1) b)) :=
  match r, hr with
  | 0, _ => row_0 b K'
  | 1, _ => row_1 b K'
  | 2, _ => row_2 b K'
  | 3, _ => row_3 b K'
  | 4, _ => row_4 b K'
  | 5, _ => row_5 b K'
  | 6, _ => row_6 b K'
  | 7, _ => row_7 b K'
  | 8, _ => row_8 b K'
  | 9, _ => row_9 b K'
  | 10, _ => row_10 b K'
  | 11, _ => row_11 b K'
  | 12, _ => row_12 b K'
  | 13, _ => row_13 b K'
  | 14, _ => row_14 b K'
  | 15, _ => row_15 b K'
  | r + 16, hr => absurd hr (by omega)
theorem rows_1 (b : Int) (r : Nat) (hr : r < 16) (K' : Value → Bool) : rowRun b (16 + r) K' = K' (.string (mkR ((16 + r) % 64 + 1) b)) :=
  match r, hr with
  | 0, _ => row_16 b K'
  | 1, _ => row_17 b K'
  | 2, _ => row_18 b K'
  | 3, _ => row_19 b K'
  | 4, _ => row_20 b K'
  | 5, _ => row_21 b K'
  | 6, _ => row_22 b K'
  | 7, _ => row_23 b K'
  | 8, _ => row_24 b K'
  | 9, _ => row_25 b K'
  | 10, _ => row_26 b K'
  | 11, _ => row_27 b K'
  | 12, _ => row_28 b K'
  | 13, _ => row_29 b K'
  | 14, _ => row_30 b K'
  | 15, _ => row_31 b K'
  | r + 16, hr => absurd hr (by omega)
theorem rows_2 (b : Int) (r : Nat) (hr : r < 16) (K' : Value → Bool) : rowRun b (32 + r) K' = K' (.string (mkR ((32 + r) % 64 + 1) b)) :=
  match r, hr with
  | 0, _ => row_32 b K'
  | 1, _ => row_33 b K'
  | 2, _ => row_34 b K'
  | 3, _ => row_35 b K'
  | 4, _ => row_36 b K'
  | 5, _ => row_37 b K'
  | 6, _ => row_38 b K'
  | 7, _ => row_39 b K'
  | 8, _ => row_40 b K'
  | 9, _ => row_41 b K'
  | 10, _ => row_42 b K'
  | 11, _ => row_43 b K'
  | 12, _ => row_44 b K'
  | 13, _ => row_45 b K'
  | 14, _ => row_46 b K'
  | 15, _ => row_47 b K'
  | r + 16, hr => absurd hr (by omega)
theorem rows_3 (b : Int) (r : Nat) (hr : r < 16) (K' : Value → Bool) : rowRun b (48 + r) K' = K' (.string (mkR ((48 + r) % 64 + 1) b)) :=
  match r, hr with
  | 0, _ => row_48 b K'
  | 1, _ => row_49 b K'
  | 2, _ => row_50 b K'
  | 3, _ => row_51 b K'
  | 4, _ => row_52 b K'
  | 5, _ => row_53 b K'
  | 6, _ => row_54 b K'
  | 7, _ => row_55 b K'
  | 8, _ => row_56 b K'
  | 9, _ => row_57 b K'
  | 10, _ => row_58 b K'
  | 11, _ => row_59 b K'
  | 12, _ => row_60 b K'
  | 13, _ => row_61 b K'
  | 14, _ => row_62 b K'
  | 15, _ => row_63 b K'
  | r + 16, hr => absurd hr (by omega)
end Go.Proofs.Ytfcgfnlifdjfjaa
namespace Go.Proofs.Ytfcgfnlifdjfjaa
open Go.Ab Go.RowKit
theorem row_64 (b : Int) (K' : Value → Bool) : rowRun b 64 K' = K' (.string (mkR 1 b)) := by kernel_rfl
theorem row_65 (b : Int) (K' : Value → Bool) : rowRun b 65 K' = K' (.string (mkR 2 b)) := by kernel_rfl
theorem row_66 (b : Int) (K' : Value → Bool) : rowRun b 66 K' = K' (.string (mkR 3 b)) := by kernel_rfl
theorem row_67 (b : Int) (K' : Value → Bool) : rowRun b 67 K' = K' (.string (mkR 4 b)) := by kernel_rfl
theorem row_68 (b : Int) (K' : Value → Bool) : rowRun b 68 K' = K' (.string (mkR 5 b)) := by kernel_rfl
theorem row_69 (b : Int) (K' : Value → Bool) : rowRun b 69 K' = K' (.string (mkR 6 b)) := by kernel_rfl
theorem row_70 (b : Int) (K' : Value → Bool) : rowRun b 70 K' = K' (.string (mkR 7 b)) := by kernel_rfl
theorem row_71 (b : Int) (K' : Value → Bool) : rowRun b 71 K' = K' (.string (mkR 8 b)) := by kernel_rfl
theorem row_72 (b : Int) (K' : Value → Bool) : rowRun b 72 K' = K' (.string (mkR 9 b)) := by kernel_rfl
theorem row_73 (b : Int) (K' : Value → Bool) : rowRun b 73 K' = K' (.string (mkR 10 b)) := by kernel_rfl
theorem row_74 (b : Int) (K' : Value → Bool) : rowRun b 74 K' = K' (.string (mkR 11 b)) := by kernel_rfl
theorem row_75 (b : Int) (K' : Value → Bool) : rowRun b 75 K' = K' (.string (mkR 12 b)) := by kernel_rfl
theorem row_76 (b : Int) (K' : Value → Bool) : rowRun b 76 K' = K' (.string (mkR 13 b)) := by kernel_rfl
theorem row_77 (b : Int) (K' : Value → Bool) : rowRun b 77 K' = K' (.string (mkR 14 b)) := by kernel_rfl
theorem row_78 (b : Int) (K' : Value → Bool) : rowRun b 78 K' = K' (.string (mkR 15 b)) := by kernel_rfl
theorem row_79 (b : Int) (K' : Value → Bool) : rowRun b 79 K' = K' (.string (mkR 16 b)) := by kernel_rfl
theorem row_80 (b : Int) (K' : Value → Bool) : rowRun b 80 K' = K' (.string (mkR 17 b)) := by kernel_rfl
theorem row_81 (b : Int) (K' : Value → Bool) : rowRun b 81 K' = K' (.string (mkR 18 b)) := by kernel_rfl
theorem row_82 (b : Int) (K' : Value → Bool) : rowRun b 82 K' = K' (.string (mkR 19 b)) := by kernel_rfl
theorem row_83 (b : Int) (K' : Value → Bool) : rowRun b 83 K' = K' (.string (mkR 20 b)) := by kernel_rfl
theorem row_84 (b : Int) (K' : Value → Bool) : rowRun b 84 K' = K' (.string (mkR 21 b)) := by kernel_rfl
theorem row_85 (b : Int) (K' : Value → Bool) : rowRun b 85 K' = K' (.string (mkR 22 b)) := by kernel_rfl
theorem row_86 (b : Int) (K' : Value → Bool) : rowRun b 86 K' = K' (.string (mkR 23 b)) := by kernel_rfl
theorem row_87 (b : Int) (K' : Value → Bool) : rowRun b 87 K' = K' (.string (mkR 24 b)) := by kernel_rfl
theorem row_88 (b : Int) (K' : Value → Bool) : rowRun b 88 K' = K' (.string (mkR 25 b)) := by kernel_rfl
theorem row_89 (b : Int) (K' : Value → Bool) : rowRun b 89 K' = K' (.string (mkR 26 b)) := by kernel_rfl
theorem row_90 (b : Int) (K' : Value → Bool) : rowRun b 90 K' = K' (.string (mkR 27 b)) := by kernel_rfl
theorem row_91 (b : Int) (K' : Value → Bool) : rowRun b 91 K' = K' (.string (mkR 28 b)) := by kernel_rfl
theorem row_92 (b : Int) (K' : Value → Bool) : rowRun b 92 K' = K' (.string (mkR 29 b)) := by kernel_rfl
theorem row_93 (b : Int) (K' : Value → Bool) : rowRun b 93 K' = K' (.string (mkR 30 b)) := by kernel_rfl
theorem row_94 (b : Int) (K' : Value → Bool) : rowRun b 94 K' = K' (.string (mkR 31 b)) := by kernel_rfl
theorem row_95 (b : Int) (K' : Value → Bool) : rowRun b 95 K' = K' (.string (mkR 32 b)) := by kernel_rfl
theorem row_96 (b : Int) (K' : Value → Bool) : rowRun b 96 K' = K' (.string (mkR 33 b)) := by kernel_rfl
theorem row_97 (b : Int) (K' : Value → Bool) : rowRun b 97 K' = K' (.string (mkR 34 b)) := by kernel_rfl
theorem row_98 (b : Int) (K' : Value → Bool) : rowRun b 98 K' = K' (.string (mkR 35 b)) := by kernel_rfl
theorem row_99 (b : Int) (K' : Value → Bool) : rowRun b 99 K' = K' (.string (mkR 36 b)) := by kernel_rfl
theorem row_100 (b : Int) (K' : Value → Bool) : rowRun b 100 K' = K' (.string (mkR 37 b)) := by kernel_rfl
theorem row_101 (b : Int) (K' : Value → Bool) : rowRun b 101 K' = K' (.string (mkR 38 b)) := by kernel_rfl
theorem row_102 (b : Int) (K' : Value → Bool) : rowRun b 102 K' = K' (.string (mkR 39 b)) := by kernel_rfl
theorem row_103 (b : Int) (K' : Value → Bool) : rowRun b 103 K' = K' (.string (mkR 40 b)) := by kernel_rfl
theorem row_104 (b : Int) (K' : Value → Bool) : rowRun b 104 K' = K' (.string (mkR 41 b)) := by kernel_rfl
theorem row_105 (b : Int) (K' : Value → Bool) : rowRun b 105 K' = K' (.string (mkR 42 b)) := by kernel_rfl
theorem row_106 (b : Int) (K' : Value → Bool) : rowRun b 106 K' = K' (.string (mkR 43 b)) := by kernel_rfl
theorem row_107 (b : Int) (K' : Value → Bool) : rowRun b 107 K' = K' (.string (mkR 44 b)) := by kernel_rfl
theorem row_108 (b : Int) (K' : Value → Bool) : rowRun b 108 K' = K' (.string (mkR 45 b)) := by kernel_rfl
theorem row_109 (b : Int) (K' : Value → Bool) : rowRun b 109 K' = K' (.string (mkR 46 b)) := by kernel_rfl
theorem row_110 (b : Int) (K' : Value → Bool) : rowRun b 110 K' = K' (.string (mkR 47 b)) := by kernel_rfl
theorem row_111 (b : Int) (K' : Value → Bool) : rowRun b 111 K' = K' (.string (mkR 48 b)) := by kernel_rfl
theorem row_112 (b : Int) (K' : Value → Bool) : rowRun b 112 K' = K' (.string (mkR 49 b)) := by kernel_rfl
theorem row_113 (b : Int) (K' : Value → Bool) : rowRun b 113 K' = K' (.string (mkR 50 b)) := by kernel_rfl
theorem row_114 (b : Int) (K' : Value → Bool) : rowRun b 114 K' = K' (.string (mkR 51 b)) := by kernel_rfl
theorem row_115 (b : Int) (K' : Value → Bool) : rowRun b 115 K' = K' (.string (mkR 52 b)) := by kernel_rfl
theorem row_116 (b : Int) (K' : Value → Bool) : rowRun b 116 K' = K' (.string (mkR 53 b)) := by kernel_rfl
theorem row_117 (b : Int) (K' : Value → Bool) : rowRun b 117 K' = K' (.string (mkR 54 b)) := by kernel_rfl
theorem row_118 (b : Int) (K' : Value → Bool) : rowRun b 118 K' = K' (.string (mkR 55 b)) := by kernel_rfl
theorem row_119 (b : Int) (K' : Value → Bool) : rowRun b 119 K' = K' (.string (mkR 56 b)) := by kernel_rfl
theorem row_120 (b : Int) (K' : Value → Bool) : rowRun b 120 K' = K' (.string (mkR 57 b)) := by kernel_rfl
theorem row_121 (b : Int) (K' : Value → Bool) : rowRun b 121 K' = K' (.string (mkR 58 b)) := by kernel_rfl
theorem row_122 (b : Int) (K' : Value → Bool) : rowRun b 122 K' = K' (.string (mkR 59 b)) := by kernel_rfl
theorem row_123 (b : Int) (K' : Value → Bool) : rowRun b 123 K' = K' (.string (mkR 60 b)) := by kernel_rfl
theorem row_124 (b : Int) (K' : Value → Bool) : rowRun b 124 K' = K' (.string (mkR 61 b)) := by kernel_rfl
theorem row_125 (b : Int) (K' : Value → Bool) : rowRun b 125 K' = K' (.string (mkR 62 b)) := by kernel_rfl
theorem row_126 (b : Int) (K' : Value → Bool) : rowRun b 126 K' = K' (.string (mkR 63 b)) := by kernel_rfl
theorem row_127 (b : Int) (K' : Value → Bool) : rowRun b 127 K' = K' (.string (mkR 64 b)) := by kernel_rfl
theorem rows_4 (b : Int) (r : Nat) (hr : r < 16) (K' : Value → Bool) : rowRun b (64 + r) K' = K' (.string (mkR ((64 + r) % 64 + 1) b)) :=
  match r, hr with
  | 0, _ => row_64 b K'
  | 1, _ => row_65 b K'
  | 2, _ => row_66 b K'
  | 3, _ => row_67 b K'
  | 4, _ => row_68 b K'
  | 5, _ => row_69 b K'
  | 6, _ => row_70 b K'
  | 7, _ => row_71 b K'
  | 8, _ => row_72 b K'
  | 9, _ => row_73 b K'
  | 10, _ => row_74 b K'
  | 11, _ => row_75 b K'
  | 12, _ => row_76 b K'
  | 13, _ => row_77 b K'
  | 14, _ => row_78 b K'
  | 15, _ => row_79 b K'
  | r + 16, hr => absurd hr (by omega)
theorem rows_5 (b : Int) (r : Nat) (hr : r < 16) (K' : Value → Bool) : rowRun b (80 + r) K' = K' (.string (mkR ((80 + r) % 64 + 1) b)) :=
  match r, hr with
  | 0, _ => row_80 b K'
  | 1, _ => row_81 b K'
  | 2, _ => row_82 b K'
  | 3, _ => row_83 b K'
  | 4, _ => row_84 b K'
  | 5, _ => row_85 b K'
  | 6, _ => row_86 b K'
  | 7, _ => row_87 b K'
  | 8, _ => row_88 b K'
  | 9, _ => row_89 b K'
  | 10, _ => row_90 b K'
  | 11, _ => row_91 b K'
  | 12, _ => row_92 b K'
  | 13, _ => row_93 b K'
  | 14, _ => row_94 b K'
  | 15, _ => row_95 b K'
  | r + 16, hr => absurd hr (by omega)
theorem rows_6 (b : Int) (r : Nat) (hr : r < 16) (K' : Value → Bool) : rowRun b (96 + r) K' = K' (.string (mkR ((96 + r) % 64 + 1) b)) :=
  match r, hr with
  | 0, _ => row_96 b K'
  | 1, _ => row_97 b K'
  | 2, _ => row_98 b K'
  | 3, _ => row_99 b K'
  | 4, _ => row_100 b K'
  | 5, _ => row_101 b K'
  | 6, _ => row_102 b K'
  | 7, _ => row_103 b K'
  | 8, _ => row_104 b K'
  | 9, _ => row_105 b K'
  | 10, _ => row_106 b K'
  | 11, _ => row_107 b K'
  | 12, _ => row_108 b K'
  | 13, _ => row_109 b K'
  | 14, _ => row_110 b K'
  | 15, _ => row_111 b K'
  | r + 16, hr => absurd hr (by omega)
theorem rows_7 (b : Int) (r : Nat) (hr : r < 16) (K' : Value → Bool) : rowRun b (112 + r) K' = K' (.string (mkR ((112 + r) % 64 + 1) b)) :=
  match r, hr with
  | 0, _ => row_112 b K'
  | 1, _ => row_113 b K'
  | 2, _ => row_114 b K'
  | 3, _ => row_115 b K'
  | 4, _ => row_116 b K'
  | 5, _ => row_117 b K'
  | 6, _ => row_118 b K'
  | 7, _ => row_119 b K'
  | 8, _ => row_120 b K'
  | 9, _ => row_121 b K'
  | 10, _ => row_122 b K'
  | 11, _ => row_123 b K'
  | 12, _ => row_124 b K'
  | 13, _ => row_125 b K'
  | 14, _ => row_126 b K'
  | 15, _ => row_127 b K'
  | r + 16, hr => absurd hr (by omega)
end Go.Proofs.Ytfcgfnlifdjfjaa
