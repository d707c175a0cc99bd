/- What cdec.read reads, as one function. -/
import Derived.Test.YtbmcanpjpibecaaDoorRa
import Derived.Test.YtbmcanpjpibecaaDoorRb
import Derived.Test.YtbmcanpjpibecaaDoorRc
import Derived.Test.YtbmcanpjpibecaaDoorRd
import Derived.Test.YtbmcanpjpibecaaDoorRu
namespace Go.Proofs.YtbmcanpjpibecaaDoor
open Go.RowKit

abbrev I5 := Int × Int × Int × Int × Int
def rUp (H : Nat) : I5 := if (gL H [7, 8, 9, 10, 11] : Int) = 2 then (22, 2, 2, 0, 16 * gS H [6, 2, 5, 3, 4, 12]) else (1, (gL H [7, 8, 9, 10, 11] : Int), 0, 0, upN (gS H [2, 3, 4, 5, 6, 12]))
def rSa (H : Nat) : I5 := if (gL H [10, 11] : Int) = 0 then (29, (8 + gL H [7, 8, 9] : Int), (8 + gL H [7, 8, 9] : Int), 0, gL H [2, 3, 4, 5, 6, 12]) else if (gL H [10, 11] : Int) = 1 then (30, (8 + gL H [7, 8, 9] : Int), (8 + gL H [7, 8, 9] : Int), 0, gL H [2, 3, 4, 5, 6, 12]) else if (gL H [10, 11] : Int) = 2 then (27, (8 + gL H [7, 8, 9] : Int), (8 + gL H [7, 8, 9] : Int), 0, gS H [2, 3, 4, 5, 6, 12]) else (pairC (gL H [5, 6, 12]), (8 + gL H [7, 8, 9] : Int), (8 + gL H [7, 8, 9] : Int), 8 + gL H [2, 3, 4], 0)
def rWh (H : Nat) : I5 := if (gL H [2, 3, 4, 5, 6] : Int) = 0 then (if (gL H [12] : Int) = 0 then (4, 0, (gL H [7, 8, 9, 10, 11] : Int), 0, 0) else if (gL H [7, 8, 9, 10, 11] : Int) = 0 then (66, 0, 0, 0, 0) else (4, 1, (gL H [7, 8, 9, 10, 11] : Int), 0, 0)) else if (gL H [12] : Int) = 0 then (31, (gL H [7, 8, 9, 10, 11] : Int), 0, (gL H [2, 3, 4, 5, 6] : Int), 0) else (31, (gL H [7, 8, 9, 10, 11] : Int), (gL H [7, 8, 9, 10, 11] : Int), (gL H [2, 3, 4, 5, 6] : Int), 0)
def rI (H : Nat) : I5 :=
  if H &&& 57347 = 0 then (22, (8 + gL H [2, 3, 4]), 2, 0, (4 * gL H [6, 5, 11, 12, 7, 8, 9, 10])) else
  if H &&& 57347 = 16384 then (13, (8 + gL H [2, 3, 4]), (8 + gL H [7, 8, 9]), 0, (4 * gL H [6, 10, 11, 12, 5])) else
  if H &&& 57347 = 24576 then (14, (8 + gL H [2, 3, 4]), (8 + gL H [7, 8, 9]), 0, (8 * gL H [10, 11, 12, 5, 6])) else
  if H &&& 57347 = 49152 then (20, 0, (8 + gL H [7, 8, 9]), (8 + gL H [2, 3, 4]), (4 * gL H [6, 10, 11, 12, 5])) else
  if H &&& 57347 = 57344 then (21, 0, (8 + gL H [7, 8, 9]), (8 + gL H [2, 3, 4]), (8 * gL H [10, 11, 12, 5, 6])) else
  if H &&& 57347 = 1 then (22, (gL H [7, 8, 9, 10, 11]), (gL H [7, 8, 9, 10, 11]), 0, (gS H [2, 3, 4, 5, 6, 12])) else
  if H &&& 57347 = 8193 then (41, (gL H [7, 8, 9, 10, 11]), (gL H [7, 8, 9, 10, 11]), 0, (gS H [2, 3, 4, 5, 6, 12])) else
  if H &&& 57347 = 16385 then (22, (gL H [7, 8, 9, 10, 11]), 0, 0, (gS H [2, 3, 4, 5, 6, 12])) else
  if H &&& 57347 = 24577 then rUp H else
  if H &&& 57347 = 32769 then rSa H else
  if H &&& 57347 = 40961 then (3, 0, 0, 0, (2 * gS H [3, 4, 5, 11, 2, 7, 6, 9, 10, 8, 12])) else
  if H &&& 57347 = 49153 then (5, 0, (8 + gL H [7, 8, 9]), 0, (2 * gS H [3, 4, 10, 11, 2, 5, 6, 12])) else
  if H &&& 57347 = 57345 then (6, 0, (8 + gL H [7, 8, 9]), 0, (2 * gS H [3, 4, 10, 11, 2, 5, 6, 12])) else
  if H &&& 57347 = 2 then (28, (gL H [7, 8, 9, 10, 11]), (gL H [7, 8, 9, 10, 11]), 0, (gL H [2, 3, 4, 5, 6, 12])) else
  if H &&& 57347 = 16386 then (13, (gL H [7, 8, 9, 10, 11]), 2, 0, (4 * gL H [4, 5, 6, 12, 2, 3])) else
  if H &&& 57347 = 24578 then (14, (gL H [7, 8, 9, 10, 11]), 2, 0, (8 * gL H [5, 6, 12, 2, 3, 4])) else
  if H &&& 57347 = 32770 then rWh H else
  if H &&& 57347 = 49154 then (20, 0, 2, (gL H [2, 3, 4, 5, 6]), (4 * gL H [9, 10, 11, 12, 7, 8])) else
  if H &&& 57347 = 57346 then (21, 0, 2, (gL H [2, 3, 4, 5, 6]), (8 * gL H [10, 11, 12, 7, 8, 9])) else
  (0, 0, 0, 0, 0)
abbrev i5V (x : I5) : Value := insnV x.1 x.2.1 x.2.2.1 x.2.2.2.1 x.2.2.2.2

theorem whole_walk (H : Nat) (w : World) : Calls Tryd.prog 37 #[.int .i64 (gL H [2, 3, 4, 5, 6]), .int .i64 (gL H [7, 8, 9, 10, 11]), .int .i64 (gL H [12])] w fun e w' => e = .returned (i5V (rWh H)) ∧ Kept w w' := by
  unfold rWh
  by_cases h1 : (gL H [2, 3, 4, 5, 6] : Int) = 0
  · by_cases h2 : (gL H [12] : Int) = 0
    · simp only [h1, h2, if_true]; exact whole_a _ _ _ rfl rfl w
    · by_cases h3 : (gL H [7, 8, 9, 10, 11] : Int) = 0
      · simp only [h1, h2, h3, if_true, if_false]; exact whole_b _ _ _ rfl rfl h2 w
      · simp only [h1, h2, h3, if_true, if_false]; exact whole_c _ _ _ rfl h3 h2 w
  · by_cases h2 : (gL H [12] : Int) = 0
    · simp only [h1, h2, if_true, if_false]; exact whole_d _ _ _ h1 rfl w
    · simp only [h1, h2, if_false]; exact whole_e _ _ _ h1 h2 w
theorem upper_walk (H b : Nat) (hH : H ≤ 65535) (w : World) (hc0 : w.cell? ⟨b, 0, none⟩ = some (.int .u32 (H : Int))) : Calls Tryd.prog 35 #[.int .i64 (gL H [7, 8, 9, 10, 11]), .func (.func 33) #[] #[.pointer (some ⟨b, 0, none⟩)]] w fun e w' => e = .returned (i5V (rUp H)) ∧ Kept w w' := by
  unfold rUp
  by_cases h1 : (gL H [7, 8, 9, 10, 11] : Int) = 2
  · simp only [if_pos h1]; exact upper_2 H b hH _ h1 w hc0
  · simp only [if_neg h1]; exact upper_n H b hH _ h1 w hc0
theorem sameR_walk (H b : Nat) (hH : H ≤ 65535) (w : World) (hc0 : w.cell? ⟨b, 0, none⟩ = some (.int .u32 (H : Int))) (hT : Tab w) : Calls Tryd.prog 36 #[.func (.func 31) #[] #[.pointer (some ⟨b, 0, none⟩)], .func (.func 33) #[] #[.pointer (some ⟨b, 0, none⟩)]] w fun e w' => e = .returned (i5V (rSa H)) ∧ Kept w w' := by
  have hr := gL_rng H [10, 11] 4 (by decide)
  unfold rSa
  by_cases h0 : (gL H [10, 11] : Int) = 0
  · simp only [if_pos h0]; exact same_0 H b hH h0 w hc0
  · by_cases h1 : (gL H [10, 11] : Int) = 1
    · simp only [if_neg h0, if_pos h1]; exact same_1 H b hH h1 w hc0
    · by_cases h2 : (gL H [10, 11] : Int) = 2
      · simp only [if_neg h0, if_neg h1, if_pos h2]; exact same_2 H b hH h2 w hc0
      · simp only [if_neg h0, if_neg h1, if_neg h2]; exact same_3 H b hH (by omega) w hc0 hT
theorem read_walk (H : Nat) (hH : H ≤ 65535) (w : World) (hT : Tab w) : Calls Tryd.prog 20 #[.int .u32 (H : Int)] w fun e w' => e = .returned (i5V (rI H)) ∧ Kept w w' := by
  unfold rI
  by_cases n0 : H &&& 57347 = 0
  · have h := n0
    rw [if_pos n0]
    exact read_7 H hH h w
  by_cases n1 : H &&& 57347 = 16384
  · have h := n1
    rw [if_neg n0, if_pos n1]
    exact read_9 H hH h w
  by_cases n2 : H &&& 57347 = 24576
  · have h := n2
    rw [if_neg n0, if_neg n1, if_pos n2]
    exact read_11 H hH h w
  by_cases n3 : H &&& 57347 = 49152
  · have h := n3
    rw [if_neg n0, if_neg n1, if_neg n2, if_pos n3]
    exact read_13 H hH h w
  by_cases n4 : H &&& 57347 = 57344
  · have h := n4
    rw [if_neg n0, if_neg n1, if_neg n2, if_neg n3, if_pos n4]
    exact read_15 H hH h w
  by_cases n5 : H &&& 57347 = 1
  · have h := n5
    rw [if_neg n0, if_neg n1, if_neg n2, if_neg n3, if_neg n4, if_pos n5]
    exact read_17 H hH h w
  by_cases n6 : H &&& 57347 = 8193
  · have h := n6
    rw [if_neg n0, if_neg n1, if_neg n2, if_neg n3, if_neg n4, if_neg n5, if_pos n6]
    exact read_19 H hH h w
  by_cases n7 : H &&& 57347 = 16385
  · have h := n7
    rw [if_neg n0, if_neg n1, if_neg n2, if_neg n3, if_neg n4, if_neg n5, if_neg n6, if_pos n7]
    exact read_21 H hH h w
  by_cases n8 : H &&& 57347 = 24577
  · have h := n8
    rw [if_neg n0, if_neg n1, if_neg n2, if_neg n3, if_neg n4, if_neg n5, if_neg n6, if_neg n7, if_pos n8]
    exact read_23 H hH h _ _ _ _ _ (fun b w hc => upper_walk H b hH w hc) w
  by_cases n9 : H &&& 57347 = 32769
  · have h := n9
    rw [if_neg n0, if_neg n1, if_neg n2, if_neg n3, if_neg n4, if_neg n5, if_neg n6, if_neg n7, if_neg n8, if_pos n9]
    exact read_25 H hH h _ _ _ _ _ w (fun b w1 hc hk => sameR_walk H b hH w1 hc (hT.kept hk)) w (Kept.refl w)
  by_cases n10 : H &&& 57347 = 40961
  · have h := n10
    rw [if_neg n0, if_neg n1, if_neg n2, if_neg n3, if_neg n4, if_neg n5, if_neg n6, if_neg n7, if_neg n8, if_neg n9, if_pos n10]
    exact read_27 H hH h w
  by_cases n11 : H &&& 57347 = 49153
  · have h := n11
    rw [if_neg n0, if_neg n1, if_neg n2, if_neg n3, if_neg n4, if_neg n5, if_neg n6, if_neg n7, if_neg n8, if_neg n9, if_neg n10, if_pos n11]
    exact read_29 H hH h w
  by_cases n12 : H &&& 57347 = 57345
  · have h := n12
    rw [if_neg n0, if_neg n1, if_neg n2, if_neg n3, if_neg n4, if_neg n5, if_neg n6, if_neg n7, if_neg n8, if_neg n9, if_neg n10, if_neg n11, if_pos n12]
    exact read_31 H hH h w
  by_cases n13 : H &&& 57347 = 2
  · have h := n13
    rw [if_neg n0, if_neg n1, if_neg n2, if_neg n3, if_neg n4, if_neg n5, if_neg n6, if_neg n7, if_neg n8, if_neg n9, if_neg n10, if_neg n11, if_neg n12, if_pos n13]
    exact read_33 H hH h w
  by_cases n14 : H &&& 57347 = 16386
  · have h := n14
    rw [if_neg n0, if_neg n1, if_neg n2, if_neg n3, if_neg n4, if_neg n5, if_neg n6, if_neg n7, if_neg n8, if_neg n9, if_neg n10, if_neg n11, if_neg n12, if_neg n13, if_pos n14]
    exact read_35 H hH h w
  by_cases n15 : H &&& 57347 = 24578
  · have h := n15
    rw [if_neg n0, if_neg n1, if_neg n2, if_neg n3, if_neg n4, if_neg n5, if_neg n6, if_neg n7, if_neg n8, if_neg n9, if_neg n10, if_neg n11, if_neg n12, if_neg n13, if_neg n14, if_pos n15]
    exact read_37 H hH h w
  by_cases n16 : H &&& 57347 = 32770
  · have h := n16
    rw [if_neg n0, if_neg n1, if_neg n2, if_neg n3, if_neg n4, if_neg n5, if_neg n6, if_neg n7, if_neg n8, if_neg n9, if_neg n10, if_neg n11, if_neg n12, if_neg n13, if_neg n14, if_neg n15, if_pos n16]
    exact read_39 H hH h _ _ _ _ _ (fun w => whole_walk H w) w
  by_cases n17 : H &&& 57347 = 49154
  · have h := n17
    rw [if_neg n0, if_neg n1, if_neg n2, if_neg n3, if_neg n4, if_neg n5, if_neg n6, if_neg n7, if_neg n8, if_neg n9, if_neg n10, if_neg n11, if_neg n12, if_neg n13, if_neg n14, if_neg n15, if_neg n16, if_pos n17]
    exact read_41 H hH h w
  by_cases n18 : H &&& 57347 = 57346
  · have h := n18
    rw [if_neg n0, if_neg n1, if_neg n2, if_neg n3, if_neg n4, if_neg n5, if_neg n6, if_neg n7, if_neg n8, if_neg n9, if_neg n10, if_neg n11, if_neg n12, if_neg n13, if_neg n14, if_neg n15, if_neg n16, if_neg n17, if_pos n18]
    exact read_43 H hH h w
  rw [if_neg n0, if_neg n1, if_neg n2, if_neg n3, if_neg n4, if_neg n5, if_neg n6, if_neg n7, if_neg n8, if_neg n9, if_neg n10, if_neg n11, if_neg n12, if_neg n13, if_neg n14, if_neg n15, if_neg n16, if_neg n17, if_neg n18]
  exact read_44 H hH (by simp only [List.mem_cons, List.not_mem_nil, or_false]; omega) w
end Go.Proofs.YtbmcanpjpibecaaDoor
