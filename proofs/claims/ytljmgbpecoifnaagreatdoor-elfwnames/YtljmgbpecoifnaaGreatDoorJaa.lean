/- Names as lists of numbers: with no Go in sight but the bytes of a string. Plain facts on bytes of numbers, the lowest first: with no Go in sight. -/
import Derived.RowKit
import Derived.Lib.BytesEntry
import Derived.Lib.SlicesS
import Derived.Laws.BytesArg
namespace Go.Proofs.YtljmgbpecoifnaaGreatDoor

/-- A name's bytes, as numbers. -/
def nm (s : ByteArray) : List Int := s.data.toList.map fun u => (u.toNat : Int)
theorem nm_length (s : ByteArray) : (nm s).length = s.size := by
  unfold nm
  rw [List.length_map, Array.length_toList]
  rfl
theorem nm_range (s : ByteArray) : ∀ x ∈ nm s, 0 ≤ x ∧ x < 256 := by
  intro x hx
  obtain ⟨u, _, rfl⟩ := List.mem_map.1 hx
  have := u.toNat_lt
  omega
theorem bytes_nm (s : ByteArray) : Lib.bytesOf (nm s) = s.data.toList := by
  unfold Lib.bytesOf nm
  rw [List.map_map]
  have : ∀ u ∈ s.data.toList, ((fun (n : Int) => UInt8.ofNat n.toNat) ∘ fun (u : UInt8) => (u.toNat : Int)) u = u := by
    intro u _
    show UInt8.ofNat ((u.toNat : Int)).toNat = u
    rw [Int.toNat_natCast]
    exact UInt8.ofNat_toNat
  rw [List.map_congr_left this, List.map_id']
theorem str_nm (s : ByteArray) : strOfNums (nm s) = s := by
  apply ByteArray.ext
  apply Array.ext'
  exact bytes_nm s
theorem nm_str {l : List Int} (h : ∀ x ∈ l, 0 ≤ x ∧ x < 256) : nm (strOfNums l) = l := by
  unfold nm
  rw [strOfNums_data, List.map_map]
  have : ∀ x ∈ l, ((fun (u : UInt8) => (u.toNat : Int)) ∘ fun (n : Int) => UInt8.ofNat n.toNat) x = x := by
    intro x hx
    have := h x hx
    show (((UInt8.ofNat x.toNat).toNat : Nat) : Int) = x
    rw [UInt8.toNat_ofNat']
    omega
  rw [List.map_congr_left this, List.map_id']
theorem nm_inj {s t : ByteArray} (h : nm s = nm t) : s = t := by rw [← str_nm s, ← str_nm t, h]
theorem nm_eq {s t : ByteArray} : nm s = nm t ↔ s = t := ⟨nm_inj, fun h => by rw [h]⟩
theorem nm_empty : nm ⟨#[]⟩ = [] := rfl
theorem nm_nil {s : ByteArray} : nm s = [] ↔ s = ⟨#[]⟩ := by rw [← nm_empty]; exact nm_eq

theorem beq_true {s t : ByteArray} (h : s = t) : (s.toList == t.toList) = true := (Lib.bytes_beq_iff s t).2 h
theorem beq_false {s t : ByteArray} (h : ¬ s = t) : (s.toList == t.toList) = false := (Lib.bytes_beq_false_iff s t).2 h


theorem nm_at {s : ByteArray} {i : Nat} (h : i < s.size) : ((s[i]'h).toNat : Int) = (nm s).getD i 0 := by
  have e : i < s.data.toList.length := by rw [Array.length_toList]; exact h
  unfold nm
  rw [List.getD, List.getElem?_map, List.getElem?_eq_getElem e]
  simp
  rfl

/-- The first k bytes of a number, the lowest first. -/
def leB (u : Nat) : Nat → List Nat
  | 0 => []
  | k + 1 => u % 256 :: leB (u / 256) k
/-- The number whose bytes they are. -/
def leN : List Nat → Nat
  | [] => 0
  | b :: l => b + 256 * leN l
theorem leB_length (u k : Nat) : (leB u k).length = k := by
  induction k generalizing u with
  | zero => rfl
  | succ k ih => simp [leB, ih]
theorem leB_lt (u k : Nat) : ∀ b ∈ leB u k, b < 256 := by
  induction k generalizing u with
  | zero => intro b h; cases h
  | succ k ih =>
    intro b h
    rcases List.mem_cons.1 h with rfl | h
    · omega
    · exact ih _ b h
theorem leN_leB (u k : Nat) : leN (leB u k) = u % 256 ^ k := by
  induction k generalizing u with
  | zero => simp [leB, leN, Nat.mod_one]
  | succ k ih =>
    simp only [leB, leN, ih]
    rw [Nat.pow_succ, Nat.mul_comm (256 ^ k) 256, Nat.mod_mul]
theorem leN_lt (l : List Nat) (h : ∀ b ∈ l, b < 256) : leN l < 256 ^ l.length := by
  induction l with
  | nil => simp [leN]
  | cons b l ih =>
    have h1 := h b (by simp)
    have h2 := ih fun c hc => h c (by simp [hc])
    simp only [leN, List.length_cons, Nat.pow_succ]
    omega
theorem leB_leN (l : List Nat) (h : ∀ b ∈ l, b < 256) : leB (leN l) l.length = l := by
  induction l with
  | nil => rfl
  | cons b l ih =>
    have h1 := h b (by simp)
    have h2 := ih fun c hc => h c (by simp [hc])
    have e1 : (b + 256 * leN l) % 256 = b := by omega
    have e2 : (b + 256 * leN l) / 256 = leN l := by omega
    simp only [leN, List.length_cons, leB, e1, e2, h2]
theorem leB_take (u j k : Nat) (h : j ≤ k) : (leB u k).take j = leB u j := by
  induction j generalizing u k with
  | zero => simp [leB]
  | succ j ih =>
    obtain ⟨m, rfl⟩ : ∃ m, k = m + 1 := ⟨k - 1, by omega⟩
    simp only [leB, List.take_succ_cons]
    rw [ih _ _ (by omega)]
theorem leB_inj {u v k : Nat} (hu : u < 256 ^ k) (hv : v < 256 ^ k) (h : leB u k = leB v k) : u = v := by
  have e := congrArg leN h
  rwa [leN_leB, leN_leB, Nat.mod_eq_of_lt hu, Nat.mod_eq_of_lt hv] at e
theorem leB_get (u k i : Nat) (h : i < k) : (leB u k)[i]? = some (u / 256 ^ i % 256) := by
  induction k generalizing u i with
  | zero => omega
  | succ k ih =>
    cases i with
    | zero => simp [leB]
    | succ i =>
      simp only [leB, List.getElem?_cons_succ]
      rw [ih _ _ (by omega), Nat.div_div_eq_div_mul, Nat.pow_succ, Nat.mul_comm 256]
theorem leB_snoc (u k : Nat) : leB u (k + 1) = leB u k ++ [u / 256 ^ k % 256] := by
  apply List.ext_getElem?
  intro i
  by_cases h : i < k
  · rw [leB_get u (k + 1) i (by omega), List.getElem?_append_left (by rw [leB_length]; exact h), leB_get u k i h]
  · by_cases e : i = k
    · subst e
      rw [leB_get u (i + 1) i (by omega), List.getElem?_append_right (by rw [leB_length]; exact Nat.le_refl _), leB_length]
      simp
    · rw [List.getElem?_eq_none (by rw [leB_length]; omega), List.getElem?_eq_none (by simp [leB_length]; omega)]
theorem leN_snoc (l : List Nat) (b : Nat) : leN (l ++ [b]) = leN l + b * 256 ^ l.length := by
  induction l with
  | nil => simp [leN]
  | cons c l ih =>
    simp only [List.cons_append, leN, ih, List.length_cons, Nat.pow_succ]
    rw [Nat.mul_add, Nat.add_assoc, Nat.mul_left_comm, Nat.mul_comm 256 (256 ^ l.length)]

/-- The bytes, as numbers of Go's. -/
def byN (u k : Nat) : List Int := (leB u k).map fun (b : Nat) => (b : Int)
theorem byN_length (u k : Nat) : (byN u k).length = k := by simp [byN, leB_length]
theorem byN_snoc (u k : Nat) : byN u (k + 1) = byN u k ++ [((u / 256 ^ k % 256 : Nat) : Int)] := by simp [byN, leB_snoc]
theorem byN_range (u k : Nat) : ∀ x ∈ byN u k, 0 ≤ x ∧ x < 256 := by
  intro x hx
  obtain ⟨b, hb, rfl⟩ := List.mem_map.1 hx
  have := leB_lt u k b hb
  omega
/-- The number whose bytes they are. -/
def nuN (l : List Int) : Nat := leN (l.map Int.toNat)
theorem nuN_snoc (l : List Int) (b : Int) : nuN (l ++ [b]) = nuN l + b.toNat * 256 ^ l.length := by simp [nuN, leN_snoc]
theorem nuN_cons (l : List Int) (b : Int) : nuN (b :: l) = b.toNat + 256 * nuN l := rfl
theorem nuN_lt (l : List Int) (h : ∀ x ∈ l, 0 ≤ x ∧ x < 256) : nuN l < 256 ^ l.length := by
  have := leN_lt (l.map Int.toNat) (by
    intro b hb
    obtain ⟨x, hx, rfl⟩ := List.mem_map.1 hb
    have := h x hx
    omega)
  simpa [nuN] using this
theorem nuN_byN (u k : Nat) : nuN (byN u k) = u % 256 ^ k := by
  unfold nuN byN
  rw [List.map_map, show (Int.toNat ∘ fun (b : Nat) => (b : Int)) = id from rfl, List.map_id, leN_leB]
theorem byN_nuN (l : List Int) (h : ∀ x ∈ l, 0 ≤ x ∧ x < 256) : byN (nuN l) l.length = l := by
  have e := leB_leN (l.map Int.toNat) (by
    intro b hb
    obtain ⟨x, hx, rfl⟩ := List.mem_map.1 hb
    have := h x hx
    omega)
  unfold byN nuN
  rw [show l.length = (l.map Int.toNat).length by simp, e, List.map_map]
  have : ∀ x ∈ l, ((fun (b : Nat) => (b : Int)) ∘ Int.toNat) x = x := by
    intro x hx
    have := h x hx
    show ((x.toNat : Nat) : Int) = x
    omega
  rw [List.map_congr_left this, List.map_id']
theorem byN_take (u j k : Nat) (h : j ≤ k) : (byN u k).take j = byN u j := by
  unfold byN
  rw [← List.map_take, leB_take u j k h]

/-- A number without its sign, and back. -/
def uOf (n : Int) : Nat := (n % 18446744073709551616).toNat
def sOf (u : Nat) : Int := ((u : Int) + 9223372036854775808) % 18446744073709551616 - 9223372036854775808
theorem uOf_lt (n : Int) : uOf n < 18446744073709551616 := by unfold uOf; omega
theorem uOf_cast (n : Int) : ((uOf n : Nat) : Int) = n % 18446744073709551616 := by unfold uOf; omega
theorem sOf_uOf (n : Int) (h0 : -9223372036854775808 ≤ n) (h1 : n ≤ 9223372036854775807) : sOf (uOf n) = n := by unfold sOf uOf; omega
theorem uOf_sOf (u : Nat) (h : u < 18446744073709551616) : uOf (sOf u) = u := by unfold sOf uOf; omega
theorem sOf_small (u : Nat) (h : u < 9223372036854775808) : sOf u = u := by unfold sOf; omega
theorem sOf_range (u : Nat) : -9223372036854775808 ≤ sOf u ∧ sOf u ≤ 9223372036854775807 := by unfold sOf; omega
theorem uOf_nonneg (n : Int) (h0 : 0 ≤ n) (h1 : n ≤ 9223372036854775807) : uOf n = n.toNat := by unfold uOf; omega

/-- Numbers may have so many bytes. -/
def szB (size : Int) : Bool := decide (size = 1 ∨ size = 2 ∨ size = 4 ∨ size = 8)
theorem szB_true {size : Int} (h : szB size = true) : size = 1 ∨ size = 2 ∨ size = 4 ∨ size = 8 := of_decide_eq_true h
theorem szB_false {size : Int} (h : szB size = false) : size ≠ 1 ∧ size ≠ 2 ∧ size ≠ 4 ∧ size ≠ 8 := by
  have := of_decide_eq_false h
  omega
/-- The number is one of so many bytes. -/
def fiB (n size : Int) : Bool := decide (size = 8 ∨ 0 ≤ n ∧ n < 2 ^ (8 * size.toNat))
/-- Both. -/
def mayB (n size : Int) : Bool := szB size && fiB n size
theorem mayB_1 (n : Int) : mayB n 1 = decide (0 ≤ n ∧ n < 256) := by simp [mayB, szB, fiB]
theorem mayB_2 (n : Int) : mayB n 2 = decide (0 ≤ n ∧ n < 65536) := by simp [mayB, szB, fiB]
theorem mayB_4 (n : Int) : mayB n 4 = decide (0 ≤ n ∧ n < 4294967296) := by simp [mayB, szB, fiB]
theorem mayB_8 (n : Int) : mayB n 8 = true := by simp [mayB, szB, fiB]
theorem mayB_no (n size : Int) (h : szB size = false) : mayB n size = false := by simp [mayB, h]
/-- What Put answers. -/
def putL (n size : Int) : List Int := if mayB n size = true then byN (uOf n) size.toNat else []
def putE (n size : Int) : Int := if mayB n size = true then 0 else 2
/-- What Get answers of the bytes l. -/
def inB (l : List Int) (at_ size : Int) : Bool := decide (0 ≤ at_ ∧ at_ + size ≤ l.length)
def getV (l : List Int) (at_ size : Int) : Int := if szB size = true then (if inB l at_ size = true then sOf (nuN ((l.drop at_.toNat).take size.toNat)) else 0) else 0
def getE (l : List Int) (at_ size : Int) : Int := if szB size = true then (if inB l at_ size = true then 0 else 8) else 2
/-- What Pad answers of the bytes l. -/
def muB (m : Int) : Bool := decide (1 ≤ m ∧ m ≤ 4096)
def padK (len m : Nat) : Nat := (m - len % m) % m
def padL (l : List Int) (m : Int) : List Int := if muB m = true then l ++ List.replicate (padK l.length m.toNat) 0 else []
def padE (m : Int) : Int := if muB m = true then 0 else 2
end Go.Proofs.YtljmgbpecoifnaaGreatDoor
