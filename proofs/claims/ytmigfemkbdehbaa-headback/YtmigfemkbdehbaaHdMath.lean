/- Packet headers, plain: what is wrong with one, its bytes, what is read out of bytes; what was written is read, a turned byte is seen. No program is met here. -/
import Derived.Test.YtmigfemkbdehbaaSm4b
namespace Go.Proofs.Ytmigfemkbdehbaa

structure Hd where
  s0 : Int
  s1 : Int
  s2 : Int
  s3 : Int
  d0 : Int
  d1 : Int
  d2 : Int
  d3 : Int
  pr : Int
  sp : Int
  dp : Int
  ln : Int
  ma : Int
def Hd.cells (h : Hd) : List Value := [.int .u8 h.s0, .int .u8 h.s1, .int .u8 h.s2, .int .u8 h.s3, .int .u8 h.d0, .int .u8 h.d1, .int .u8 h.d2, .int .u8 h.d3, .int .i64 h.pr, .int .i64 h.sp, .int .i64 h.dp, .int .i64 h.ln, .int .i64 h.ma]
def Hd.none : Hd := ⟨0, 0, 0, 0, 0, 0, 0, 0, 0, 0, 0, 0, 0⟩
def I64 (x : Int) : Prop := -9223372036854775808 ≤ x ∧ x ≤ 9223372036854775807
structure Hd.Fine (h : Hd) : Prop where
  s0 : Byte h.s0
  s1 : Byte h.s1
  s2 : Byte h.s2
  s3 : Byte h.s3
  d0 : Byte h.d0
  d1 : Byte h.d1
  d2 : Byte h.d2
  d3 : Byte h.d3
  pr : I64 h.pr
  sp : I64 h.sp
  dp : I64 h.dp
  ln : I64 h.ln
  ma : I64 h.ma
def ported (p : Int) : Bool := decide (p = 6) || decide (p = 17)
theorem ported_iff (p : Int) : ported p = true ↔ p = 6 ∨ p = 17 := by simp [ported]

/-- What is wrong with a header; 0 if nothing is. -/
def Hd.wrong (h : Hd) : Int :=
  if (h.pr < 0 ∨ 255 < h.pr) ∨ (h.ma < 0 ∨ 63 < h.ma) ∨ (h.sp < 0 ∨ 65535 < h.sp) ∨ (h.dp < 0 ∨ 65535 < h.dp) then 2
  else if ported h.pr = false ∧ (h.sp ≠ 0 ∨ h.dp ≠ 0) then 1
  else if 65535 < h.ln ∨ h.ln < 20 ∨ (ported h.pr = true ∧ h.ln < 24) then 2
  else 0
structure Hd.Sound (h : Hd) : Prop where
  s0 : Byte h.s0
  s1 : Byte h.s1
  s2 : Byte h.s2
  s3 : Byte h.s3
  d0 : Byte h.d0
  d1 : Byte h.d1
  d2 : Byte h.d2
  d3 : Byte h.d3
  pr : Byte h.pr
  ma : 0 ≤ h.ma ∧ h.ma < 64
  sp : Half h.sp
  dp : Half h.dp
  plain : ported h.pr = false → h.sp = 0 ∧ h.dp = 0
  ln : 20 ≤ h.ln ∧ h.ln < 65536
  room : ported h.pr = true → 24 ≤ h.ln
theorem Hd.Fine.sound {h : Hd} (hf : h.Fine) (hw : h.wrong = 0) : h.Sound := by
  unfold Hd.wrong at hw
  split at hw
  · omega
  split at hw
  · omega
  split at hw
  · omega
  rename_i a b c
  refine ⟨hf.s0, hf.s1, hf.s2, hf.s3, hf.d0, hf.d1, hf.d2, hf.d3, ⟨by omega, by omega⟩, ⟨by omega, by omega⟩, ⟨by omega, by omega⟩, ⟨by omega, by omega⟩, fun hp => ?_, ⟨by omega, by omega⟩, fun hp => ?_⟩
  · rw [hp] at b; simp at b; exact b
  · rw [hp] at c; simp at c; omega

/-- The first twenty bytes, c the checksum. -/
def Hd.first (h : Hd) (c : Int) : List Int := [69, 4 * h.ma, h.ln / 256, h.ln % 256, 0, 0, 0, 0, 64, h.pr, c / 256, c % 256, h.s0, h.s1, h.s2, h.s3, h.d0, h.d1, h.d2, h.d3]
def Hd.check (h : Hd) : Int := 65535 - fd (tot 0 (h.first 0))
def Hd.rest (h : Hd) : List Int := if ported h.pr = true then h.sp / 256 :: h.sp % 256 :: h.dp / 256 :: h.dp % 256 :: List.replicate (h.ln.toNat - 24) 0 else List.replicate (h.ln.toNat - 20) 0
def Hd.packet (h : Hd) : List Int := h.first h.check ++ h.rest

theorem tot_first (h : Hd) (c : Int) : tot 0 (h.first c) = tot 0 (h.first 0) + c := by
  simp only [Hd.first, tot, wt]
  simp
  omega
theorem bytes_cons {x : Int} {xs : List Int} (hx : Byte x) (h : Bytes xs) : Bytes (x :: xs) := fun y hy => by
  rcases List.mem_cons.1 hy with rfl | h1
  · exact hx
  · exact h y h1
theorem bytes_nil : Bytes [] := fun _ h => by cases h
theorem bytes_zeros (n : Nat) : Bytes (List.replicate n 0) := fun x hx => by
  obtain ⟨_, rfl⟩ := List.mem_replicate.1 hx
  exact ⟨by omega, by omega⟩
theorem Hd.Sound.bytes_first {h : Hd} (hs : h.Sound) {c : Int} (hc : Half c) : Bytes (h.first c) := by
  obtain ⟨m0, m1⟩ := hs.ma
  obtain ⟨l0, l1⟩ := hs.ln
  obtain ⟨c0, c1⟩ := hc
  unfold Hd.first
  have z : Byte 0 := ⟨by omega, by omega⟩
  exact bytes_cons ⟨by omega, by omega⟩ (bytes_cons ⟨by omega, by omega⟩ (bytes_cons ⟨by omega, by omega⟩ (bytes_cons ⟨by omega, by omega⟩ (bytes_cons z (bytes_cons z (bytes_cons z (bytes_cons z (bytes_cons ⟨by omega, by omega⟩ (bytes_cons hs.pr (bytes_cons ⟨by omega, by omega⟩ (bytes_cons ⟨by omega, by omega⟩ (bytes_cons hs.s0 (bytes_cons hs.s1 (bytes_cons hs.s2 (bytes_cons hs.s3 (bytes_cons hs.d0 (bytes_cons hs.d1 (bytes_cons hs.d2 (bytes_cons hs.d3 bytes_nil)))))))))))))))))))
theorem Hd.Sound.half_check {h : Hd} (hs : h.Sound) : Half h.check := by
  have hb := (tot_bound (hs.bytes_first (c := 0) ⟨by omega, by omega⟩) 0).1
  obtain ⟨a, b⟩ := fd_half hb
  exact ⟨by unfold Hd.check; omega, by unfold Hd.check; omega⟩
theorem Hd.Sound.bytes_rest {h : Hd} (hs : h.Sound) : Bytes h.rest := by
  obtain ⟨a0, a1⟩ := hs.sp
  obtain ⟨b0, b1⟩ := hs.dp
  unfold Hd.rest
  split
  · exact bytes_cons ⟨by omega, by omega⟩ (bytes_cons ⟨by omega, by omega⟩ (bytes_cons ⟨by omega, by omega⟩ (bytes_cons ⟨by omega, by omega⟩ (bytes_zeros _))))
  · exact bytes_zeros _
theorem Hd.Sound.bytes {h : Hd} (hs : h.Sound) : Bytes h.packet := (hs.bytes_first hs.half_check).append hs.bytes_rest
theorem first_length (h : Hd) (c : Int) : (h.first c).length = 20 := rfl
theorem Hd.Sound.length {h : Hd} (hs : h.Sound) : h.packet.length = h.ln.toNat := by
  obtain ⟨l0, l1⟩ := hs.ln
  unfold Hd.packet
  rw [List.length_append, first_length]
  unfold Hd.rest
  split
  · rename_i hp
    have := hs.room hp
    simp only [List.length_cons, List.length_replicate]
    omega
  · simp only [List.length_replicate]
    omega
theorem Hd.Sound.sum {h : Hd} (hs : h.Sound) : fd (tot 0 (h.first h.check)) = 65535 := by
  rw [tot_first]
  exact check_all (tot_bound (hs.bytes_first (c := 0) ⟨by omega, by omega⟩) 0).1

/-! ### reading -/
def nth (bs : List Int) (i : Nat) : Int := (bs[i]?).getD 0
def hsize (bs : List Int) : Int := 4 * (nth bs 0 % 16)
def wordAt (bs : List Int) (i : Nat) : Int := nth bs i * 256 + nth bs (i + 1)
def portsIn (bs : List Int) : Bool := ported (nth bs 9) && decide (wordAt bs 6 % 8192 = 0)
/-- Why bytes can't be read; 0 if they can. -/
def unread (bs : List Int) : Int :=
  if bs.length < 20 then 8
  else if nth bs 0 / 16 ≠ 4 ∨ hsize bs < 20 then 1
  else if (bs.length : Int) < hsize bs ∨ (bs.length : Int) < wordAt bs 2 then 8
  else if wordAt bs 2 < hsize bs then 1
  else if fd (tot 0 (bs.take (hsize bs).toNat)) ≠ 65535 then 7
  else if portsIn bs = true ∧ wordAt bs 2 < hsize bs + 4 then 8
  else 0
def heads (bs : List Int) : Hd :=
  ⟨nth bs 12, nth bs 13, nth bs 14, nth bs 15, nth bs 16, nth bs 17, nth bs 18, nth bs 19, nth bs 9,
    if portsIn bs = true then wordAt bs (hsize bs).toNat else 0, if portsIn bs = true then wordAt bs ((hsize bs).toNat + 2) else 0, wordAt bs 2, nth bs 1 / 4⟩
def readHd (bs : List Int) : Hd := if unread bs = 0 then heads bs else Hd.none

theorem nth_byte {bs : List Int} (h : Bytes bs) (i : Nat) : Byte (nth bs i) := by
  unfold nth
  cases e : bs[i]? with
  | none => exact ⟨by simp, by simp⟩
  | some x => exact h.at e
theorem wordAt_half {bs : List Int} (h : Bytes bs) (i : Nat) : Half (wordAt bs i) := by
  obtain ⟨a, b⟩ := nth_byte h i
  obtain ⟨c, d⟩ := nth_byte h (i + 1)
  unfold wordAt
  exact ⟨by omega, by omega⟩
structure Readable (bs : List Int) : Prop where
  len : 20 ≤ bs.length
  four : nth bs 0 / 16 = 4
  size : 20 ≤ hsize bs
  all : hsize bs ≤ bs.length
  whole : wordAt bs 2 ≤ bs.length
  in_ : hsize bs ≤ wordAt bs 2
  sum : fd (tot 0 (bs.take (hsize bs).toNat)) = 65535
  ports : portsIn bs = true → hsize bs + 4 ≤ wordAt bs 2
theorem readable {bs : List Int} : unread bs = 0 ↔ Readable bs := by
  unfold unread
  constructor
  · intro h
    split at h
    · omega
    split at h
    · omega
    split at h
    · omega
    split at h
    · omega
    split at h
    · omega
    split at h
    · omega
    rename_i a b c d e f
    refine ⟨by omega, by omega, by omega, by omega, by omega, by omega, Decidable.not_not.1 e, fun hp => ?_⟩
    simp only [hp, true_and] at f
    omega
  · intro h
    obtain ⟨h1, h2, h3, h4, h5, h6, h7, h8⟩ := h
    rw [if_neg (by omega), if_neg (by omega), if_neg (by omega), if_neg (by omega), if_neg (by omega), if_neg (fun h => by have := h8 h.1; omega)]

theorem Hd.Sound.read {h : Hd} (hs : h.Sound) (more : List Int) : unread (h.packet ++ more) = 0 ∧ readHd (h.packet ++ more) = h := by
  obtain ⟨l0, l1⟩ := hs.ln
  obtain ⟨m0, m1⟩ := hs.ma
  have hw : wordAt (h.packet ++ more) 2 = h.ln := show h.ln / 256 * 256 + h.ln % 256 = h.ln by omega
  have hz : hsize (h.packet ++ more) = 20 := rfl
  have h9 : nth (h.packet ++ more) 9 = h.pr := rfl
  have hp : portsIn (h.packet ++ more) = ported h.pr := by
    unfold portsIn
    rw [h9, show wordAt (h.packet ++ more) 6 = 0 from rfl]
    simp
  have hlen : (h.packet ++ more).length = h.ln.toNat + more.length := by rw [List.length_append, hs.length]
  have ht : (h.packet ++ more).take 20 = h.first h.check := rfl
  have hr : unread (h.packet ++ more) = 0 := by
    rw [readable]
    refine ⟨by omega, rfl, by omega, by omega, by omega, by omega, ?_, fun hq => ?_⟩
    · rw [hz]
      show fd (tot 0 ((h.packet ++ more).take 20)) = 65535
      rw [ht]
      exact hs.sum
    · rw [hp] at hq
      have := hs.room hq
      omega
  refine ⟨hr, ?_⟩
  unfold readHd
  rw [if_pos hr]
  unfold heads
  rw [hp, hw, hz]
  obtain ⟨a0, a1⟩ := hs.sp
  obtain ⟨b0, b1⟩ := hs.dp
  have e1 : nth (h.packet ++ more) 1 / 4 = h.ma := show 4 * h.ma / 4 = h.ma by omega
  have es : (if ported h.pr = true then wordAt (h.packet ++ more) (20 : Int).toNat else 0) = h.sp := by
    cases hq : ported h.pr with
    | false => simpa using (hs.plain hq).1.symm
    | true =>
      rw [if_pos rfl]
      unfold Hd.packet Hd.rest
      rw [if_pos hq]
      show h.sp / 256 * 256 + h.sp % 256 = h.sp
      omega
  have ed : (if ported h.pr = true then wordAt (h.packet ++ more) ((20 : Int).toNat + 2) else 0) = h.dp := by
    cases hq : ported h.pr with
    | false => simpa using (hs.plain hq).2.symm
    | true =>
      rw [if_pos rfl]
      unfold Hd.packet Hd.rest
      rw [if_pos hq]
      show h.dp / 256 * 256 + h.dp % 256 = h.dp
      omega
  rw [e1, es, ed]
  rfl

theorem Hd.Sound.read0 {h : Hd} (hs : h.Sound) : unread h.packet = 0 ∧ readHd h.packet = h := by
  have := hs.read []
  rwa [List.append_nil] at this
theorem Hd.Sound.spoilt {h : Hd} (hs : h.Sound) {i : Nat} (h1 : 1 ≤ i) (h2 : i < 20) {t : Int} (ht : Byte t) (h0 : t ≠ 0) {x : Int} (hx : h.packet[i]? = some x) :
    Bytes (h.packet.set i (bits .xor .u8 x t)) ∧ unread (h.packet.set i (bits .xor .u8 x t)) ≠ 0 := by
  have hb := hs.bytes_first hs.half_check
  have hi : i < (h.first h.check).length := h2
  have hx' : (h.first h.check)[i]? = some x := by
    unfold Hd.packet at hx
    rwa [List.getElem?_append_left hi] at hx
  have hxe : x = (h.first h.check)[i] := by
    rw [List.getElem?_eq_getElem hi] at hx'
    exact (Option.some.inj hx').symm
  obtain ⟨k1, k2⟩ := turned_all hb hs.sum hi ht h0
  rw [← hxe] at k1 k2
  have hy : Byte (bits .xor .u8 x t) := (bits_xor8 (hs.bytes.at hx) ht h0).1
  have e : h.packet.set i (bits .xor .u8 x t) = (h.first h.check).set i (bits .xor .u8 x t) ++ h.rest := by
    unfold Hd.packet
    rw [List.set_append_left _ _ hi]
  refine ⟨hs.bytes.set i hy, fun hr => k2 ?_⟩
  obtain ⟨h1', h2', h3', h4', h5', h6', h7', h8'⟩ := readable.1 hr
  have hn0 : nth (h.packet.set i (bits .xor .u8 x t)) 0 = 69 := by
    unfold nth
    rw [List.getElem?_set_ne (by omega)]
    rfl
  have hz : hsize (h.packet.set i (bits .xor .u8 x t)) = 20 := by unfold hsize; rw [hn0]; rfl
  rw [hz, e] at h7'
  rw [← h7']
  congr 2
  show _ = List.take 20 _
  rw [List.take_left' (by rw [List.length_set]; rfl)]

theorem Hd.Sound.short {h : Hd} (hs : h.Sound) {n : Nat} (hn : n < h.ln.toNat) : unread (h.packet.take n) = 8 := by
  have hl : (h.packet.take n).length = n := by rw [List.length_take, hs.length]; omega
  obtain ⟨l0, l1⟩ := hs.ln
  unfold unread
  by_cases c : n < 20
  · rw [if_pos (by omega)]
  · have e : ∀ i, i < 20 → nth (h.packet.take n) i = nth h.packet i := fun i hi => by unfold nth; rw [List.getElem?_take_of_lt (by omega)]
    have h0 : nth (h.packet.take n) 0 = 69 := (e 0 (by omega)).trans rfl
    have hz : hsize (h.packet.take n) = 20 := by unfold hsize; rw [h0]; rfl
    have hw : wordAt (h.packet.take n) 2 = h.ln := by
      unfold wordAt
      rw [e 2 (by omega), e (2 + 1) (by omega)]
      show h.ln / 256 * 256 + h.ln % 256 = h.ln
      omega
    rw [if_neg (by omega), h0, hz, if_neg (by decide), if_pos (by omega)]

theorem fine_of_half {x : Int} (h : Half x) : I64 x := ⟨by have := h.1; omega, by have := h.2; omega⟩
theorem fine_of_byte {x : Int} (h : Byte x) : I64 x := ⟨by have := h.1; omega, by have := h.2; omega⟩
theorem heads_fine {bs : List Int} (h : Bytes bs) : (heads bs).Fine := by
  obtain ⟨a, b⟩ := nth_byte h 1
  refine ⟨nth_byte h _, nth_byte h _, nth_byte h _, nth_byte h _, nth_byte h _, nth_byte h _, nth_byte h _, nth_byte h _, fine_of_byte (nth_byte h _), ?_, ?_, fine_of_half (wordAt_half h _), ⟨by simp only [heads]; omega, by simp only [heads]; omega⟩⟩
  · simp only [heads]
    split
    · exact fine_of_half (wordAt_half h _)
    · exact ⟨by omega, by omega⟩
  · simp only [heads]
    split
    · exact fine_of_half (wordAt_half h _)
    · exact ⟨by omega, by omega⟩
/-- What was read can be written, unless it is a part of a packet that has no room for ports. -/
theorem read_wrong {bs : List Int} (h : Bytes bs) (hr : unread bs = 0) (hw : (heads bs).wrong ≠ 0) : wordAt bs 2 < 24 := by
  obtain ⟨h1, h2, h3, h4, h5, h6, h7, h8⟩ := readable.1 hr
  obtain ⟨a0, a1⟩ := nth_byte h 9
  obtain ⟨b0, b1⟩ := nth_byte h 1
  obtain ⟨c0, c1⟩ := wordAt_half h 2
  have hsp : Half (heads bs).sp := by
    simp only [heads]
    split
    · exact wordAt_half h _
    · exact ⟨by omega, by omega⟩
  have hdp : Half (heads bs).dp := by
    simp only [heads]
    split
    · exact wordAt_half h _
    · exact ⟨by omega, by omega⟩
  obtain ⟨p0, p1⟩ := hsp
  obtain ⟨q0, q1⟩ := hdp
  have hz : ported (nth bs 9) = false → (heads bs).sp = 0 ∧ (heads bs).dp = 0 := fun hp => by
    simp [heads, portsIn, hp]
  rcases Int.lt_or_le (wordAt bs 2) 24 with hl | hl
  · exact hl
  · exfalso
    apply hw
    have hm : (heads bs).ma = nth bs 1 / 4 := rfl
    have hpr : (heads bs).pr = nth bs 9 := rfl
    have hln : (heads bs).ln = wordAt bs 2 := rfl
    unfold Hd.wrong
    rw [if_neg (by rw [hm, hpr]; omega), if_neg (by rw [hpr]; rintro ⟨h1, h2⟩; have := hz h1; omega), if_neg (by rw [hln]; omega)]
end Go.Proofs.Ytmigfemkbdehbaa
