import PyProof.Rows.All
import Wide.All
import OpenK.AllK
import Wide.FinOn
import Open.SpecLaws
import KE.OsGo
import HandS.ForSpec
import HandS.Comp
import HandS.Wide
import PySem.Challenge.RW_smallproducts_s03_scale
set_option Elab.async false
set_option linter.all false
set_option maxRecDepth 100000
set_option maxHeartbeats 2000000
namespace Sp
/-! ### the mathematics: plain lists and numbers -/
def ws (b sp : Int) : Int := if sp ≤ 2 * b then b - sp else b
def hold (x : Int) : Int := max (-2147483648) (min 2147483647 x)
def gi (l : List Int) (j : Nat) : Int := l.getD j 0
def upto (F : Nat → Int) : Nat → Int
  | 0 => 0
  | k + 1 => upto F k + F k
def dot (xs ws : List Int) (n i : Nat) : Int := upto (fun j => gi xs j * gi ws (n * i + j)) n
theorem upto_congr {F G : Nat → Int} : ∀ {n : Nat}, (∀ k, k < n → F k = G k) → upto F n = upto G n
  | 0, _ => rfl
  | n + 1, h => by
    show upto F n + F n = upto G n + G n
    rw [upto_congr (fun k hk => h k (Nat.lt_succ_of_lt hk)), h n (Nat.lt_succ_self n)]
theorem total_take (l : List Int) (F : Nat → Int) (h : ∀ k, k < l.length → l[k]? = some (F k)) : ∀ n, n ≤ l.length → Sv05.total (l.take n) = upto F n
  | 0, _ => rfl
  | n + 1, hn => by
    have e : l.take (n + 1) = l.take n ++ [F n] := by
      rw [List.take_add_one, h n hn]
      rfl
    have ih := total_take l F h n (Nat.le_of_succ_le hn)
    unfold Sv05.total at ih ⊢
    rw [e, List.foldl_append, ih]
    rfl
theorem total_is {l : List Int} {F : Nat → Int} {n : Nat} (hl : l.length = n) (h : ∀ k, k < n → l[k]? = some (F k)) : Sv05.total l = upto F n := by
  subst hl
  have q := total_take l F h l.length (Nat.le_refl _)
  rw [List.take_length] at q
  exact q
theorem gi_get {l : List Int} {j : Nat} (h : j < l.length) : l[j]? = some (gi l j) := by
  unfold gi
  rw [List.getElem?_eq_getElem h, List.getD_eq_getElem?_getD, List.getElem?_eq_getElem h]
  rfl
theorem gi_mem {l : List Int} {j : Nat} (h : j < l.length) : gi l j ∈ l := by
  have e := gi_get h
  exact List.mem_of_getElem? e
theorem gi_map {f : Int → Int} {l : List Int} {j : Nat} (h : j < l.length) : gi (l.map f) j = f (gi l j) := by
  have e := gi_get (l := l.map f) (j := j) (by rw [List.length_map]; exact h)
  rw [List.getElem?_map, gi_get h] at e
  exact (Option.some.inj e).symm
theorem row_len {n i r : Nat} (hi : i < r) : n * i + n ≤ r * n := by
  have h : n * (i + 1) ≤ n * r := Nat.mul_le_mul_left n hi
  rw [Nat.mul_succ, Nat.mul_comm n r] at h
  exact h
/-- the specification's row, element by element -/
theorem zip_dot {xs ys : List Int} {n r i : Nat} (g : Nat × Nat → Int) (p q : Int → Int) (hx : xs.length = n) (hy : ys.length = r * n) (hi : i < r)
    (hg : ∀ a ∈ xs, ∀ b ∈ ys, g (a.toNat, b.toNat) = p a * q b) :
    Sv05.total (((Sv05Neutral.n xs).zip (Sv05.weights (Sv05Neutral.n ys) n i)).map g) = dot (xs.map p) (ys.map q) n i := by
  have hb := row_len (n := n) hi
  have lw : (Sv05.weights (Sv05Neutral.n ys) n i).length = n := by
    unfold Sv05.weights Sv05Neutral.n
    rw [List.length_take, List.length_drop, List.length_map, hy]
    omega
  have lx : (Sv05Neutral.n xs).length = n := by
    unfold Sv05Neutral.n
    rw [List.length_map, hx]
  refine total_is (by rw [List.length_map, List.length_zip, lw, lx, Nat.min_self]) fun k hk => ?_
  have k1 : k < xs.length := by omega
  have k2 : n * i + k < ys.length := by omega
  have e1 : (Sv05Neutral.n xs)[k]? = some (gi xs k).toNat := by
    unfold Sv05Neutral.n
    rw [List.getElem?_map, gi_get k1]
    rfl
  have e2 : (Sv05.weights (Sv05Neutral.n ys) n i)[k]? = some (gi ys (n * i + k)).toNat := by
    unfold Sv05.weights Sv05Neutral.n
    rw [List.getElem?_take_of_lt hk, List.getElem?_drop, List.getElem?_map, gi_get k2]
    rfl
  have e3 : ((Sv05Neutral.n xs).zip (Sv05.weights (Sv05Neutral.n ys) n i))[k]? = some ((gi xs k).toNat, (gi ys (n * i + k)).toNat) := List.getElem?_zip_eq_some.mpr ⟨e1, e2⟩
  rw [List.getElem?_map, e3, gi_map k1, gi_map k2]
  show some (g _) = _
  rw [hg _ (gi_mem k1) _ (gi_mem k2)]
theorem signed_is {w : Nat} {b : Int} (hw : 0 < w) (h0 : 0 ≤ b) (h1 : b < 2 ^ w) : Sv05.signed w b.toNat = ws b (2 ^ w) := by
  obtain ⟨v, rfl⟩ : ∃ v, w = v + 1 := ⟨w - 1, by omega⟩
  obtain ⟨m, rfl⟩ : ∃ m : Nat, b = (m : Int) := ⟨b.toNat, by omega⟩
  have h1' : m < 2 ^ (v + 1) := by
    have : (m : Int) < ((2 ^ (v + 1) : Nat) : Int) := by rw [Int.natCast_pow]; exact h1
    omega
  have e : ((2 : Int) ^ (v + 1)) = ((2 ^ (v + 1) : Nat) : Int) := by rw [Int.natCast_pow]; rfl
  unfold Sv05.signed ws
  rw [e, Int.toNat_natCast, Nat.mod_eq_of_lt h1', Nat.add_sub_cancel]
  have p : 2 ^ (v + 1) = 2 * 2 ^ v := by rw [Nat.pow_succ, Nat.mul_comm]
  rw [p] at h1' ⊢
  by_cases c : m < 2 ^ v
  · rw [if_pos c, if_neg (by omega)]
  · rw [if_neg c, if_pos (by omega)]
theorem signed8 {b : Int} (h : 0 ≤ b ∧ b < 256) : Sv05.signed 8 b.toNat = ws b 256 := signed_is (w := 8) (by decide) h.1 h.2
theorem signed16 {b : Int} (h : 0 ≤ b ∧ b < 65536) : Sv05.signed 16 b.toNat = ws b 65536 := signed_is (w := 16) (by decide) h.1 h.2
theorem signed32 {b : Int} (h : 0 ≤ b ∧ b < 4294967296) : Sv05.signed 32 b.toNat = ws b 4294967296 := signed_is (w := 32) (by decide) h.1 h.2
theorem unsigned_is (w : Nat) (x : Int) : ((Sv05.unsigned w x : Nat) : Int) = x % (2 ^ w : Nat) := by
  unfold Sv05.unsigned
  have h : (0 : Int) < ((2 ^ w : Nat) : Int) := by
    have := Nat.two_pow_pos w
    omega
  exact Int.toNat_of_nonneg (Int.emod_nonneg _ (by omega))
theorem below_iff {top : Int} {l : List Int} (h : Sv05Neutral.below top l = true) : ∀ a ∈ l, 0 ≤ a ∧ a < top := by
  intro a ha
  unfold Sv05Neutral.below at h
  have q := List.all_eq_true.mp h a ha
  rw [Bool.and_eq_true, decide_eq_true_eq, decide_eq_true_eq] at q
  exact q
theorem many_iff {top k : Int} {yes : Bool} {l : List Int} (h : Sv05Neutral.many top yes k l = true) : (∀ a ∈ l, 0 ≤ a ∧ a < top) ∧ (l.length : Int) = if yes = true then k else 0 := by
  unfold Sv05Neutral.many at h
  rw [Bool.and_eq_true, decide_eq_true_eq] at h
  exact ⟨below_iff h.1, h.2⟩
theorem size_iff {r n : Int} (h0 : 0 ≤ r) (h1 : 0 ≤ n) : Sv05.isSize r.toNat n.toNat = true ↔ ¬ (1024 < r ∨ 65536 < n) := by
  unfold Sv05.isSize
  rw [Bool.and_eq_true, decide_eq_true_eq, decide_eq_true_eq]
  omega
theorem sizes_iff {r n : Int} (h : Sv05Neutral.sizes r n = true) : 0 ≤ r ∧ 0 ≤ n ∧ ((r ≤ 8 ∧ n ≤ 500) ∨ (r ≤ 1024 ∧ n = 0) ∨ 1024 < r ∨ 65536 < n) := by
  unfold Sv05Neutral.sizes at h
  rw [Bool.and_eq_true, Bool.or_eq_true, Bool.or_eq_true, decide_eq_true_eq, decide_eq_true_eq] at h
  obtain ⟨hb, hc⟩ := h
  have b := below_iff hb
  have h0 := (b r (by simp)).1
  have h1 := (b n (by simp)).1
  refine ⟨h0, h1, ?_⟩
  rcases hc with h | h | h
  · exact .inl h
  · exact .inr (.inl h)
  · have : ¬ Sv05.isSize r.toNat n.toNat = true := by
      intro q
      rw [q] at h
      cases h
    rw [size_iff h0 h1] at this
    omega
/-! the two answers -/
def bRow (n : Nat) (x w bias : List Int) (i : Nat) : Int := hold (ws (gi bias i) 4294967296 + dot x (w.map fun b => ws b 256) n i) % 4294967296
def wRow (n : Nat) (x w : List Int) (i : Nat) : Int := dot (x.map fun b => ws b 65536) (w.map fun b => ws b 65536) n i % 18446744073709551616
theorem at_is {l : List Int} {i : Nat} (h : i < l.length) : Sv05.at_ (Sv05Neutral.n l) i = (gi l i).toNat := by
  unfold Sv05.at_ Sv05Neutral.n
  rw [List.getD_eq_getElem?_getD, List.getElem?_map, gi_get h]
  rfl
theorem held_is (x : Int) : Sv05.held x = hold x := rfl
theorem bytes_no {rows n : Int} {x w bias : List Int} (h0 : 0 ≤ rows) (h1 : 0 ≤ n) (h : 1024 < rows ∨ 65536 < n) : PySv05.bytes_of rows n x w bias = [-1] := by
  show (let y := Sv05.does (.bytes (Sv05Neutral.n x) (Sv05Neutral.n w) (Sv05Neutral.n bias) rows.toNat n.toNat); (match y.code with | some z => [z] | none => []) ++ y.l.map Sv05Neutral.said) = [-1]
  unfold Sv05.does
  have e : ¬ Sv05.isSize rows.toNat n.toNat = true := fun q => (size_iff h0 h1).mp q h
  simp only [if_neg e]
  rfl
theorem bytes_yes {rows n : Int} {x w bias : List Int} (h0 : 0 ≤ rows) (h1 : 0 ≤ n) (h : ¬ (1024 < rows ∨ 65536 < n)) (hx : x.length = n.toNat) (hw : w.length = rows.toNat * n.toNat) (hb : bias.length = rows.toNat)
    (bx : ∀ a ∈ x, 0 ≤ a ∧ a < 256) (bw : ∀ a ∈ w, 0 ≤ a ∧ a < 256) (bb : ∀ a ∈ bias, 0 ≤ a ∧ a < 4294967296) :
    PySv05.bytes_of rows n x w bias = 0 :: (List.range rows.toNat).map (bRow n.toNat x w bias) := by
  show (let y := Sv05.does (.bytes (Sv05Neutral.n x) (Sv05Neutral.n w) (Sv05Neutral.n bias) rows.toNat n.toNat); (match y.code with | some z => [z] | none => []) ++ y.l.map Sv05Neutral.said) = _
  unfold Sv05.does
  have e : Sv05.isSize rows.toNat n.toNat = true := (size_iff h0 h1).mpr h
  simp only [if_pos e]
  unfold Sv05.code
  simp only [List.map_map]
  refine congrArg (List.cons 0) (List.map_congr_left fun i hi => ?_)
  have hi := List.mem_range.mp hi
  show ((Sv05.unsigned 32 _ : Nat) : Int) = _
  rw [unsigned_is, held_is, at_is (by omega), signed32 (bb _ (gi_mem (by omega))), zip_dot (p := fun a => a) (q := fun b => ws b 256) _ hx hw hi (fun a ha b hb => by
    show ((a.toNat : Nat) : Int) * Sv05.signed 8 b.toNat = _
    rw [signed8 (bw b hb), Int.toNat_of_nonneg (bx a ha).1]), List.map_id']
  rfl
theorem words_no {rows n : Int} {x w : List Int} (h0 : 0 ≤ rows) (h1 : 0 ≤ n) (h : 1024 < rows ∨ 65536 < n) : PySv05.words rows n x w = [-1] := by
  show (let y := Sv05.does (.words (Sv05Neutral.n x) (Sv05Neutral.n w) rows.toNat n.toNat); (match y.code with | some z => [z] | none => []) ++ y.l.map Sv05Neutral.said) = [-1]
  unfold Sv05.does
  have e : ¬ Sv05.isSize rows.toNat n.toNat = true := fun q => (size_iff h0 h1).mp q h
  simp only [if_neg e]
  rfl
theorem words_yes {rows n : Int} {x w : List Int} (h0 : 0 ≤ rows) (h1 : 0 ≤ n) (h : ¬ (1024 < rows ∨ 65536 < n)) (hx : x.length = n.toNat) (hw : w.length = rows.toNat * n.toNat)
    (bx : ∀ a ∈ x, 0 ≤ a ∧ a < 65536) (bw : ∀ a ∈ w, 0 ≤ a ∧ a < 65536) :
    PySv05.words rows n x w = 0 :: (List.range rows.toNat).map (wRow n.toNat x w) := by
  show (let y := Sv05.does (.words (Sv05Neutral.n x) (Sv05Neutral.n w) rows.toNat n.toNat); (match y.code with | some z => [z] | none => []) ++ y.l.map Sv05Neutral.said) = _
  unfold Sv05.does
  have e : Sv05.isSize rows.toNat n.toNat = true := (size_iff h0 h1).mpr h
  simp only [if_pos e]
  unfold Sv05.code
  simp only [List.map_map]
  refine congrArg (List.cons 0) (List.map_congr_left fun i hi => ?_)
  have hi := List.mem_range.mp hi
  show ((Sv05.unsigned 64 _ : Nat) : Int) = _
  rw [unsigned_is, zip_dot (p := fun b => ws b 65536) (q := fun b => ws b 65536) _ hx hw hi (fun a ha b hb => by
    show Sv05.signed 16 a.toNat * Sv05.signed 16 b.toNat = _
    rw [signed16 (bw b hb), signed16 (bx a ha)])]
  rfl
end Sp
namespace Sp
/-! ### scale and sum, in whole numbers -/
theorem at_all (l : List Int) (i : Nat) : Sv05.at_ (Sv05Neutral.n l) i = (gi l i).toNat := by
  by_cases h : i < l.length
  · exact at_is h
  · unfold Sv05.at_ Sv05Neutral.n gi
    rw [List.getD_eq_getElem?_getD, List.getD_eq_getElem?_getD, List.getElem?_map, List.getElem?_eq_none (by omega)]
    rfl
theorem gi_within {l : List Int} {top : Int} (ht : 0 < top) (h : ∀ a ∈ l, 0 ≤ a ∧ a < top) (i : Nat) : 0 ≤ gi l i ∧ gi l i < top := by
  by_cases c : i < l.length
  · exact h _ (gi_mem c)
  · unfold gi
    rw [List.getD_eq_getElem?_getD, List.getElem?_eq_none (by omega)]
    exact ⟨Int.le_refl 0, ht⟩
def scaleI (m s z x : Int) : Int := max 0 (min 255 (z + (2 * (ws x 4294967296 * m) + 2 ^ s.toNat) / (2 * 2 ^ s.toNat)))
def scaleOk (n s z : Int) : Prop := n ≤ 65536 ∧ 0 ≤ s ∧ s ≤ 62 ∧ 0 ≤ z ∧ z ≤ 255
theorem scale_asked_iff {n m s z : Int} {l : List Int} (h : PySv05.scale_asked n m s z l = true) : 0 ≤ n ∧ (n ≤ 500 ∨ 65536 < n) ∧ (-2147483648 ≤ m ∧ m < 2147483648) ∧ (-2147483648 ≤ s ∧ s < 2147483648) ∧ (-2147483648 ≤ z ∧ z < 2147483648) ∧
    (∀ a ∈ l, 0 ≤ a ∧ a < 4294967296) ∧ (l.length : Int) = if n ≤ 65536 then n else 0 := by
  have h : (Sv05Neutral.below (2 ^ 32) [n] && ((decide (n ≤ 500) || decide (65536 < n)) && (Sv05Neutral.whole32 m && (Sv05Neutral.whole32 s && (Sv05Neutral.whole32 z && Sv05Neutral.many (2 ^ 32) (decide (n ≤ 65536)) n l))))) = true := h
  simp only [Bool.and_eq_true, Bool.or_eq_true, decide_eq_true_eq, Sv05Neutral.whole32] at h
  obtain ⟨h1, h2, h3, h4, h5, h6⟩ := h
  obtain ⟨h7, h8⟩ := many_iff h6
  simp only [decide_eq_true_eq] at h8
  exact ⟨(below_iff h1 n (by simp)).1, h2, h3, h4, h5, h7, h8⟩
theorem scale_no {n m s z : Int} {l : List Int} (h0 : 0 ≤ n) (h : ¬ scaleOk n s z) : PySv05.scale n m s z l = [-1] := by
  show (let y := Sv05.does (.scale (Sv05Neutral.n l) n.toNat m s z); (match y.code with | some z => [z] | none => []) ++ y.l.map Sv05Neutral.said) = [-1]
  unfold Sv05.does
  have e : ¬ (n.toNat ≤ 65536 ∧ 0 ≤ s ∧ s ≤ 62 ∧ 0 ≤ z ∧ z ≤ 255) := fun q => h ⟨by omega, q.2⟩
  simp only [if_neg e]
  rfl
theorem scale_yes {n m s z : Int} {l : List Int} (h0 : 0 ≤ n) (h : scaleOk n s z) (hl : ∀ a ∈ l, 0 ≤ a ∧ a < 4294967296) : PySv05.scale n m s z l = 0 :: l.map (scaleI m s z) := by
  show (let y := Sv05.does (.scale (Sv05Neutral.n l) n.toNat m s z); (match y.code with | some z => [z] | none => []) ++ y.l.map Sv05Neutral.said) = _
  unfold Sv05.does
  have e : n.toNat ≤ 65536 ∧ 0 ≤ s ∧ s ≤ 62 ∧ 0 ≤ z ∧ z ≤ 255 := ⟨by have := h.1; omega, h.2⟩
  simp only [if_pos e]
  unfold Sv05.code Sv05Neutral.n
  simp only [List.map_map]
  refine congrArg (List.cons 0) (List.map_congr_left fun x hx => ?_)
  show (((max 0 (min 255 (z + Sv05.nearest (Sv05.signed 32 x.toNat * m) s.toNat))).toNat : Nat) : Int) = _
  rw [Int.toNat_of_nonneg (by omega), signed32 (hl x hx)]
  unfold Sv05.nearest scaleI
  rw [Int.natCast_pow]
  rfl
/-! lanes -/
theorem lanes_iff {l : List Int} (h : Sv05Neutral.lanes l = true) : (∀ a ∈ l, 0 ≤ a ∧ a < 4294967296) ∧ l.length ≤ 16 := by
  unfold Sv05Neutral.lanes at h
  rw [Bool.and_eq_true, decide_eq_true_eq] at h
  exact ⟨below_iff h.1, h.2⟩
def partI (bits : Nat) (x : Int) (i : Nat) : Int := x / 2 ^ (bits * i) % 2 ^ bits
theorem part_is {bits i : Nat} {x : Int} (h : 0 ≤ x) : ((Sv05.part bits x.toNat i : Nat) : Int) = partI bits x i := by
  obtain ⟨m, rfl⟩ : ∃ m : Nat, x = (m : Int) := ⟨x.toNat, by omega⟩
  unfold Sv05.part partI
  rw [Int.toNat_natCast, Int.natCast_emod, Int.natCast_ediv, Int.natCast_pow, Int.natCast_pow]
  rfl
theorem partI_within (bits i : Nat) (x : Int) : 0 ≤ partI bits x i ∧ partI bits x i < 2 ^ bits := by
  have h : (0 : Int) < 2 ^ bits := by
    have := Nat.two_pow_pos bits
    have e : ((2 : Int) ^ bits) = ((2 ^ bits : Nat) : Int) := by rw [Int.natCast_pow]; rfl
    omega
  exact ⟨Int.emod_nonneg _ (by omega), Int.emod_lt_of_pos _ h⟩
theorem signed_part {bits i : Nat} {x : Int} (hb : 0 < bits) (h : 0 ≤ x) : Sv05.signed bits (Sv05.part bits x.toNat i) = ws (partI bits x i) (2 ^ bits) := by
  have w := partI_within bits i x
  rw [← signed_is hb w.1 w.2, ← part_is h, Int.toNat_natCast]
def fourI (a b : Int) : Int := partI 8 a 0 * ws (partI 8 b 0) 256 + partI 8 a 1 * ws (partI 8 b 1) 256 + partI 8 a 2 * ws (partI 8 b 2) 256 + partI 8 a 3 * ws (partI 8 b 3) 256
def twoI (a b : Int) : Int := ws (partI 16 a 0) 65536 * ws (partI 16 b 0) 65536 + ws (partI 16 a 1) 65536 * ws (partI 16 b 1) 65536
def laneI (kind s a b : Int) : Int :=
  if kind = 0 then (ws s 4294967296 + fourI a b) % 4294967296
  else if kind = 1 then hold (ws s 4294967296 + fourI a b) % 4294967296
  else if kind = 2 then (ws s 4294967296 + twoI a b) % 4294967296
  else if kind = 3 then hold (ws s 4294967296 + twoI a b) % 4294967296
  else s
theorem four_is {a b : Int} (ha : 0 ≤ a) (hb : 0 ≤ b) : Sv05.total ((List.range 4).map fun i => (Sv05.part 8 a.toNat i : Int) * Sv05.signed 8 (Sv05.part 8 b.toNat i)) = fourI a b := by
  show (0 : Int) + (Sv05.part 8 a.toNat 0 : Int) * Sv05.signed 8 (Sv05.part 8 b.toNat 0) + (Sv05.part 8 a.toNat 1 : Int) * Sv05.signed 8 (Sv05.part 8 b.toNat 1) + (Sv05.part 8 a.toNat 2 : Int) * Sv05.signed 8 (Sv05.part 8 b.toNat 2) + (Sv05.part 8 a.toNat 3 : Int) * Sv05.signed 8 (Sv05.part 8 b.toNat 3) = _
  rw [part_is ha, part_is ha, part_is ha, part_is ha, signed_part (by decide) hb, signed_part (by decide) hb, signed_part (by decide) hb, signed_part (by decide) hb, Int.zero_add]
  rfl
theorem two_is {a b : Int} (ha : 0 ≤ a) (hb : 0 ≤ b) : Sv05.total ((List.range 2).map fun i => Sv05.signed 16 (Sv05.part 16 a.toNat i) * Sv05.signed 16 (Sv05.part 16 b.toNat i)) = twoI a b := by
  show (0 : Int) + Sv05.signed 16 (Sv05.part 16 a.toNat 0) * Sv05.signed 16 (Sv05.part 16 b.toNat 0) + Sv05.signed 16 (Sv05.part 16 a.toNat 1) * Sv05.signed 16 (Sv05.part 16 b.toNat 1) = _
  rw [signed_part (by decide) ha, signed_part (by decide) ha, signed_part (by decide) hb, signed_part (by decide) hb, Int.zero_add]
  rfl
theorem lane_is {kind s a b : Int} (hs : 0 ≤ s ∧ s < 4294967296) (ha : 0 ≤ a) (hb : 0 ≤ b) : ((Sv05.laneSum kind s.toNat a.toNat b.toNat : Nat) : Int) = laneI kind s a b := by
  unfold Sv05.laneSum laneI
  dsimp only
  rw [four_is ha hb, two_is ha hb, signed32 hs]
  by_cases c0 : kind = 0
  · rw [if_pos c0, if_pos c0, unsigned_is]
    rfl
  rw [if_neg c0, if_neg c0]
  by_cases c1 : kind = 1
  · rw [if_pos c1, if_pos c1, unsigned_is]
    rfl
  rw [if_neg c1, if_neg c1]
  by_cases c2 : kind = 2
  · rw [if_pos c2, if_pos c2, unsigned_is]
    rfl
  rw [if_neg c2, if_neg c2]
  by_cases c3 : kind = 3
  · rw [if_pos c3, if_pos c3, unsigned_is]
    rfl
  rw [if_neg c3, if_neg c3]
  exact Int.toNat_of_nonneg hs.1
/-- bit j of k, as a remainder -/
def inKI (k : Int) (j : Nat) : Prop := k / 2 ^ j % 2 = 1
instance (k : Int) (j : Nat) : Decidable (inKI k j) := by unfold inKI; infer_instance
theorem inK_iff {k : Int} {j : Nat} (h : 0 ≤ k) : Sv05.inK k.toNat j = true ↔ inKI k j := by
  obtain ⟨m, rfl⟩ : ∃ m : Nat, k = (m : Int) := ⟨k.toNat, by omega⟩
  unfold Sv05.inK inKI
  rw [Int.toNat_natCast, Nat.testBit_eq_decide_div_mod_eq, decide_eq_true_eq]
  have e : ((2 : Int) ^ j) = ((2 ^ j : Nat) : Int) := by rw [Int.natCast_pow]; rfl
  rw [e]
  omega
theorem sum_asked_iff {k kind : Int} {s a b : List Int} (h : PySv05.sum_of_asked k kind s a b = true) : (0 ≤ k ∧ k < 65536) ∧ (-2147483648 ≤ kind ∧ kind < 2147483648) ∧ ((∀ x ∈ s, 0 ≤ x ∧ x < 4294967296) ∧ s.length ≤ 16) ∧ ((∀ x ∈ a, 0 ≤ x ∧ x < 4294967296) ∧ a.length ≤ 16) ∧ ((∀ x ∈ b, 0 ≤ x ∧ x < 4294967296) ∧ b.length ≤ 16) := by
  have h : (Sv05Neutral.below 65536 [k] && (Sv05Neutral.whole32 kind && (Sv05Neutral.lanes s && (Sv05Neutral.lanes a && Sv05Neutral.lanes b)))) = true := h
  simp only [Bool.and_eq_true, decide_eq_true_eq, Sv05Neutral.whole32] at h
  obtain ⟨h1, h2, h3, h4, h5⟩ := h
  exact ⟨below_iff h1 k (by simp), h2, lanes_iff h3, lanes_iff h4, lanes_iff h5⟩
theorem sum_is {k kind : Int} {s a b : List Int} (hk : 0 ≤ k) (hs : ∀ x ∈ s, 0 ≤ x ∧ x < 4294967296) (ha : ∀ x ∈ a, 0 ≤ x ∧ x < 4294967296) (hb : ∀ x ∈ b, 0 ≤ x ∧ x < 4294967296) :
    PySv05.sum_of k kind s a b = (List.range 16).map fun j => if inKI k j then laneI kind (gi s j) (gi a j) (gi b j) else gi s j := by
  show ([] : List Int) ++ (((List.range 16).map fun j => if Sv05.inK k.toNat j = true then Sv05.laneSum kind (Sv05.at_ (Sv05Neutral.n s) j) (Sv05.at_ (Sv05Neutral.n a) j) (Sv05.at_ (Sv05Neutral.n b) j) else Sv05.at_ (Sv05Neutral.n s) j).map some).map Sv05Neutral.said = _
  rw [List.nil_append, List.map_map, List.map_map]
  refine List.map_congr_left fun j _ => ?_
  have ws := gi_within (by decide) hs j
  have wa := gi_within (by decide) ha j
  have wb := gi_within (by decide) hb j
  show (((if Sv05.inK k.toNat j = true then Sv05.laneSum kind (Sv05.at_ (Sv05Neutral.n s) j) (Sv05.at_ (Sv05Neutral.n a) j) (Sv05.at_ (Sv05Neutral.n b) j) else Sv05.at_ (Sv05Neutral.n s) j) : Nat) : Int) = _
  rw [at_all, at_all, at_all]
  by_cases c : inKI k j
  · rw [if_pos c, if_pos ((inK_iff hk).mpr c)]
    exact lane_is ws wa.1 wb.1
  · rw [if_neg c, if_neg (fun z => c ((inK_iff hk).mp z))]
    exact Int.toNat_of_nonneg ws.1
end Sp

namespace Sp
open PySem PySem.Spec PyProof.Rows L2
open PySem.W (Codec)
/-! ### the text by places -/
def top (i : Nat) : Stmt := PySem.Challenge.pw_smallproducts_s03_scale.main.body.getD i (.Pass ⟨0, 0, 0, 0⟩)
abbrev s_is_scale_refused : Stmt := top 5
abbrev s_with_sign : Stmt := top 6
abbrev s_all_with_sign : Stmt := top 7
abbrev s_rounded_quotient : Stmt := top 8
abbrev s_scale : Stmt := top 9
/-- where each def stands -/
structure Ad where
  f_is_scale_refused : Addr
  d_is_scale_refused : FuncData
  f_with_sign : Addr
  d_with_sign : FuncData
  f_all_with_sign : Addr
  d_all_with_sign : FuncData
  f_rounded_quotient : Addr
  d_rounded_quotient : FuncData
  f_scale : Addr
  d_scale : FuncData
/-- what the top has written -/
structure Txt (K : PySem.W.Frag) (mg : Str → Option Value) (A : Ad) : Prop where
  F_is_scale_refused : Fun K "is_scale_refused" "is_scale_refused" s_is_scale_refused A.f_is_scale_refused A.d_is_scale_refused
  b_is_scale_refused : Binds K A.d_is_scale_refused ["n", "s", "z"] []
  g_is_scale_refused : mg "is_scale_refused" = some (.ref A.f_is_scale_refused)
  F_with_sign : Fun K "with_sign" "with_sign" s_with_sign A.f_with_sign A.d_with_sign
  b_with_sign : Binds K A.d_with_sign ["bits", "span"] []
  g_with_sign : mg "with_sign" = some (.ref A.f_with_sign)
  F_all_with_sign : Fun K "all_with_sign" "all_with_sign" s_all_with_sign A.f_all_with_sign A.d_all_with_sign
  b_all_with_sign : Binds K A.d_all_with_sign ["numbers", "span"] []
  g_all_with_sign : mg "all_with_sign" = some (.ref A.f_all_with_sign)
  F_rounded_quotient : Fun K "rounded_quotient" "rounded_quotient" s_rounded_quotient A.f_rounded_quotient A.d_rounded_quotient
  b_rounded_quotient : Binds K A.d_rounded_quotient ["number", "s"] []
  g_rounded_quotient : mg "rounded_quotient" = some (.ref A.f_rounded_quotient)
  F_scale : Fun K "scale" "scale" s_scale A.f_scale A.d_scale
  b_scale : Binds K A.d_scale ["n", "m", "s", "z", "numbers"] []
  g_scale : mg "scale" = some (.ref A.f_scale)
  c_MOST_NUMBERS : ∃ t, mg "MOST_NUMBERS" = some (.int 65536 t)
  c_MOST_SHIFT : ∃ t, mg "MOST_SHIFT" = some (.int 62 t)
  c_MOST_BYTE : ∃ t, mg "MOST_BYTE" = some (.int 255 t)
  c_SPAN_32 : ∃ t, mg "SPAN_32" = some (.int 4294967296 t)
  z_max : mg "max" = none
  z_min : mg "min" = none
section
variable {P : Program} {w : World} {K : PySem.W.Frag} {mg : Str → Option Value} {base : Heap} {A : Ad}
/-! ### helpers -/
theorem pe_cint {X : Cx} {x : Str} {i : Int} {t : _} {pos : Pos} (hg : Gl X x) (hm : X.mg x = some (.int i t)) (hd : (x == ("__debug__" : Str)) = false := by decide) : PE X (.Name x pos) (tC (.int i)) := pe_glob hg hm ⟨_, rfl⟩ hd
theorem same_upd {H : Hp} {p : Addr} {o : HO} (h : H p = none) : Same H (upd H p o) := fun b x e => by
  rw [upd_ne (ne_of_none e h)]
  exact e
/-- a store to an address that was free at the start -/
theorem same_store {H H1 : Hp} {p : Addr} {o : HO} (h : H p = none) (s : Same H H1) : Same H (upd H1 p o) := fun b x e => by
  rw [upd_ne (ne_of_none e h)]
  exact s b x e
theorem at_map {l : List Int} {j : Nat} (h : j < l.length) : (l.map V.int)[j]? = some (.int (gi l j)) := by
  rw [List.getElem?_map, gi_get h]
  rfl
theorem map_at {l : List Int} {j : Nat} {y : V} (h : (l.map V.int)[j]? = some y) : ∃ z, l[j]? = some z ∧ y = .int z := by
  rw [List.getElem?_map] at h
  cases e : l[j]? with
  | none =>
    rw [e] at h
    cases h
  | some z =>
    rw [e] at h
    exact ⟨z, rfl, (Option.some.inj h).symm⟩
/-! ### with_sign -/
def spWs : Sp := fun vs H Q _ => ∃ b n : Int, vs = [.int b, .int n] ∧ Q (.int (ws b n)) H
theorem sc_with_sign : FnScope ["bits", "span"] ["bits", "span"] (defScope s_with_sign) := ⟨rfl, rfl, rfl, by decide +kernel, rfl, by decide +kernel, by decide +kernel⟩
theorem ok_with_sign (T : Txt K mg A) : FnOk P w K mg base CX0 1 A.f_with_sign A.d_with_sign ["bits", "span"] spWs := by
  refine T.F_with_sign.ok sc_with_sign (fun vs H Q E h => ?_) (fun cdv A' outer s H vs Q E hr h => ?_)
  · obtain ⟨r, n, rfl, _⟩ := h
    rfl
  · obtain ⟨b, n, rfl, q⟩ := h
    refine ⟨_, pss_cons (ps_if (pt_cmpR op_ge (pe_op op_mul pe_int (pv 0)) (pv 1) (nomark _)) (pss_one (ps_ret (pe_op op_sub (pv 0) (pv 1)))) pss_nil) (pss_one (ps_ret (pv 0))), ?_⟩
    refine ⟨_, rfl, _, _, rfl, rfl, .inl ⟨by decide, by decide⟩, _, rfl, _, _, rfl, rfl, _, rfl, ite2 (fun e => ?_) (fun e => ?_)⟩
    · refine ⟨_, rfl, _, rfl, _, _, rfl, rfl, ?_⟩
      unfold ws at q
      rw [if_pos (of_decide_eq_true e)] at q
      exact q
    · refine ⟨_, rfl, ?_⟩
      unfold ws at q
      rw [if_neg (fun z => e (decide_eq_true z))] at q
      exact q
/-! ### all_with_sign -/
def spAll (K : PySem.W.Frag) : Sp := fun vs H Q _ => ∃ (a : Addr) (ns : List Int) (n : Int), vs = [.ref a, .int n] ∧ SqL K H a (ns.map V.int) ∧ ns.length ≤ 4000 ∧
  ∀ H' p, Same H H' → H p = none → H' p = some (.lst ((ns.map fun b => ws b n).map V.int)) → Q (.ref p) H'
theorem sc_all_with_sign : FnScope ["numbers", "span", "bits"] ["numbers", "span"] (defScope s_all_with_sign) := ⟨rfl, rfl, rfl, by decide +kernel, rfl, by decide +kernel, by decide +kernel⟩
theorem ok_all_with_sign (T : Txt K mg A) : FnOk P w K mg base CX0 2 A.f_all_with_sign A.d_all_with_sign ["numbers", "span"] (spAll K) := by
  have G1 : FnOk P w K mg base CX0 1 A.f_with_sign A.d_with_sign ["bits", "span"] spWs := ok_with_sign T
  refine T.F_all_with_sign.ok sc_all_with_sign (fun vs H Q E h => ?_) (fun cdv A' outer s H vs Q E hr h => ?_)
  · obtain ⟨a, ns, n, rfl, _⟩ := h
    rfl
  · obtain ⟨a, ns, n, rfl, hS, hl, q⟩ := h
    refine ⟨_, pss_one (ps_ret (pe_lc (own := [("bits", 2)]) (g := gName 2) (tt := tYes) rfl sc_all_with_sign.nd (pi_list (pv 0))
      (blkOk_by (N := ["numbers", "span", "bits"]) (sc := defScope s_all_with_sign) (by decide +kernel))
      (fun _ _ _ _ _ => pg_name (i := 2) sc_all_with_sign.nd rfl (Or.inl rfl)) (fun _ _ _ _ _ => pts_nil)
      (fun _ _ _ _ _ => pe_call G1 hr (by rfl) T.g_with_sign T.F_with_sign.kp T.b_with_sign .nil pass0 (pa_cons (pv 2) (pa_cons (pv 1) pa_nil))))), ?_⟩
    refine ⟨.ref a, rfl, a, rfl, ⟨_, hS⟩, fun D hD => ?_⟩
    refine lc_list (K := K) (a := a) (xs := ns.map V.int) (fun i H' => Same H H' ∧ H' D = some (.lst (((ns.take i).map fun b => ws b n).map V.int)))
      ⟨same_upd hD, upd_same⟩ (fun i H' _ z => z.1.seq hS) ?_ ?_
    · rintro i y H' hi ⟨s5, e5⟩
      obtain ⟨z, hz, rfl⟩ := map_at hi
      refine ⟨rfl, ?_⟩
      dsimp only [tYes]
      refine iteT ?_
      refine ⟨_, rfl, _, rfl, _, _, rfl, ?_⟩
      refine ⟨_, e5, ?_, same_store hD s5, ?_⟩
      · rw [List.length_map, List.length_map, List.length_take]
        exact Nat.lt_of_le_of_lt (Nat.le_trans (Nat.min_le_right _ _) hl) (by decide)
      · rw [upd_same, List.take_add_one, hz, List.map_append, List.map_append]
        rfl
    · rintro H' ⟨s5, e5⟩
      rw [List.length_map, List.take_length] at e5
      exact q H' D s5 hD e5

/-! ### is_scale_refused -/
instance (n s z : Int) : Decidable (scaleOk n s z) := by unfold scaleOk; infer_instance
def spRefS : Sp := fun vs H Q _ => ∃ n s z : Int, vs = [.int n, .int s, .int z] ∧ Q (.bl (decide (¬ scaleOk n s z))) H
theorem sc_is_scale_refused : FnScope ["n", "s", "z"] ["n", "s", "z"] (defScope s_is_scale_refused) := ⟨rfl, rfl, rfl, by decide +kernel, rfl, by decide +kernel, by decide +kernel⟩
theorem ok_is_scale_refused (T : Txt K mg A) : FnOk P w K mg base CX0 1 A.f_is_scale_refused A.d_is_scale_refused ["n", "s", "z"] spRefS := by
  obtain ⟨t1, c1⟩ := T.c_MOST_NUMBERS
  obtain ⟨t2, c2⟩ := T.c_MOST_SHIFT
  obtain ⟨t3, c3⟩ := T.c_MOST_BYTE
  refine T.F_is_scale_refused.ok sc_is_scale_refused (fun vs H Q E h => ?_) (fun cdv A' outer s H vs Q E hr h => ?_)
  · obtain ⟨n, s, z, rfl, _⟩ := h
    rfl
  · obtain ⟨n, s, z, rfl, q⟩ := h
    refine ⟨_, pss_one (ps_ret (pe_or (pe_cmpR op_gt (pv 0) (pe_cint rfl c1) (nomark _)) (pe_or (pe_cmpR op_lt (pv 1) pe_int (nomark _)) (pe_or (pe_cmpR op_gt (pv 1) (pe_cint rfl c2) (nomark _))
      (pe_or (pe_cmpR op_lt (pv 2) pe_int (nomark _)) (pe_one (pe_cmpR op_gt (pv 2) (pe_cint rfl c3) (nomark _)))))))), ?_⟩
    refine ⟨_, rfl, _, _, rfl, rfl, _, rfl, ite2 (fun e => ?_) (fun e1 => ?_)⟩
    · rw [decide_eq_true (p := ¬ scaleOk n s z) (fun k => by have := of_decide_eq_true e; unfold scaleOk at k; omega)] at q
      exact q
    refine ⟨_, rfl, _, _, rfl, rfl, _, rfl, ite2 (fun e => ?_) (fun e2 => ?_)⟩
    · rw [decide_eq_true (p := ¬ scaleOk n s z) (fun k => by have := of_decide_eq_true e; unfold scaleOk at k; omega)] at q
      exact q
    refine ⟨_, rfl, _, _, rfl, rfl, _, rfl, ite2 (fun e => ?_) (fun e3 => ?_)⟩
    · rw [decide_eq_true (p := ¬ scaleOk n s z) (fun k => by have := of_decide_eq_true e; unfold scaleOk at k; omega)] at q
      exact q
    refine ⟨_, rfl, _, _, rfl, rfl, _, rfl, ite2 (fun e => ?_) (fun e4 => ?_)⟩
    · rw [decide_eq_true (p := ¬ scaleOk n s z) (fun k => by have := of_decide_eq_true e; unfold scaleOk at k; omega)] at q
      exact q
    refine ⟨_, rfl, _, _, rfl, rfl, ?_⟩
    have d1 : ¬ (65536 : Int) < n := fun z => e1 (decide_eq_true z)
    have d2 : ¬ s < (0 : Int) := fun z => e2 (decide_eq_true z)
    have d3 : ¬ (62 : Int) < s := fun z => e3 (decide_eq_true z)
    have d4 : ¬ z < (0 : Int) := fun z => e4 (decide_eq_true z)
    have e5 : decide (¬ scaleOk n s z) = decide ((255 : Int) < z) := by
      rw [decide_eq_decide]
      unfold scaleOk
      omega
    rw [e5] at q
    exact q
/-! ### rounded_quotient -/
def spRq : Sp := fun vs H Q _ => ∃ x s : Int, vs = [.int x, .int s] ∧ 0 ≤ s ∧ s ≤ 62 ∧ Q (.int ((2 * x + 2 ^ s.toNat) / (2 * 2 ^ s.toNat))) H
theorem sc_rounded_quotient : FnScope ["number", "s"] ["number", "s"] (defScope s_rounded_quotient) := ⟨rfl, rfl, rfl, by decide +kernel, rfl, by decide +kernel, by decide +kernel⟩
theorem ok_rounded_quotient (T : Txt K mg A) : FnOk P w K mg base CX0 1 A.f_rounded_quotient A.d_rounded_quotient ["number", "s"] spRq := by
  refine T.F_rounded_quotient.ok sc_rounded_quotient (fun vs H Q E h => ?_) (fun cdv A' outer s H vs Q E hr h => ?_)
  · obtain ⟨n, s, rfl, _⟩ := h
    rfl
  · obtain ⟨n, s, rfl, h0, h1, q⟩ := h
    refine ⟨_, pss_one (ps_ret (pe_op op_shr (pe_op op_add (pe_op op_mul pe_int (pv 0)) (pe_op op_shl pe_int (pv 1))) (pe_op op_add (pv 1) pe_int))), ?_⟩
    refine ⟨_, rfl, _, _, rfl, rfl, .inl ⟨by decide, by decide⟩, _, rfl, _, _, rfl, rfl, ⟨h0, by omega, by decide⟩, _, _, rfl, rfl, _, rfl, _, _, rfl, rfl, _, _, rfl, rfl, (by omega), ?_⟩
    have e : (2 : Int) ^ (s + 1).toNat = 2 * 2 ^ s.toNat := by
      rw [show (s + 1).toNat = s.toNat + 1 by omega, Int.pow_succ, Int.mul_comm]
    show Q (.int ((2 * n + 1 * 2 ^ s.toNat) / 2 ^ (s + 1).toNat)) H
    rw [e, Int.one_mul]
    exact q
/-! ### scale -/
def spScale (K : PySem.W.Frag) : Sp := fun vs H Q _ => ∃ (n m s z : Int) (al : Addr) (l : List Int), vs = [.int n, .int m, .int s, .int z, .ref al] ∧
  SqL K H al (l.map V.int) ∧ PySv05.scale_asked n m s z l = true ∧
  ∀ (H' : Hp) (p : Addr), H' p = some (.lst ((PySv05.scale n m s z l).map V.int)) → Q (.ref p) H'
theorem sc_scale : FnScope ["n", "m", "s", "z", "numbers", "answer", "number", "scaled"] ["n", "m", "s", "z", "numbers"] (defScope s_scale) := ⟨rfl, rfl, rfl, by decide +kernel, rfl, by decide +kernel, by decide +kernel⟩
theorem ws32_within {b : Int} (h : 0 ≤ b ∧ b < 4294967296) : -4294967296 ≤ ws b 4294967296 ∧ ws b 4294967296 ≤ 4294967296 := by
  unfold ws
  by_cases c : (4294967296 : Int) ≤ 2 * b
  · rw [if_pos c]
    omega
  · rw [if_neg c]
    omega
theorem held_byte (x : Int) : (if (if x < 255 then x else 255) > (0 : Int) then (if x < 255 then x else 255) else 0) = max 0 (min 255 x) := by
  by_cases h1 : x < 255
  · rw [if_pos h1]
    by_cases h2 : x > 0
    · rw [if_pos h2]
      omega
    · rw [if_neg h2]
      omega
  · rw [if_neg h1, if_pos (by decide)]
    omega
theorem ok_scale (T : Txt K mg A) : FnOk P w K mg base CX0 3 A.f_scale A.d_scale ["n", "m", "s", "z", "numbers"] (spScale K) := by
  have G1 : FnOk P w K mg base CX0 1 A.f_is_scale_refused A.d_is_scale_refused ["n", "s", "z"] spRefS := ok_is_scale_refused T
  have G2 : FnOk P w K mg base CX0 2 A.f_all_with_sign A.d_all_with_sign ["numbers", "span"] (spAll K) := ok_all_with_sign T
  have G3 : FnOk P w K mg base CX0 1 A.f_rounded_quotient A.d_rounded_quotient ["number", "s"] spRq := ok_rounded_quotient T
  obtain ⟨t1, c1⟩ := T.c_SPAN_32
  obtain ⟨t2, c2⟩ := T.c_MOST_BYTE
  refine T.F_scale.ok sc_scale (fun vs H Q E h => ?_) (fun cdv A' outer s H vs Q E hr h => ?_)
  · obtain ⟨n, m, s, z, al, l, rfl, _⟩ := h
    rfl
  · obtain ⟨n, m, s, z, al, l, rfl, hL, hask, q⟩ := h
    have hr1 : Room 1 _ := hr.mono (by decide)
    refine ⟨_, pss_cons (ps_if (pt_val (pe_call G1 hr1 (by rfl) T.g_is_scale_refused T.F_is_scale_refused.kp T.b_is_scale_refused .nil pass0 (pa_cons (pv 0) (pa_cons (pv 2) (pa_cons (pv 3) pa_nil))))) (pss_one (ps_ret (pe_lst (pa_cons (pe_un un_neg pe_int) pa_nil)))) pss_nil)
      (pss_cons (ps_set (i := 5) sc_scale.nd rfl (.inl rfl) (pe_lst (pa_cons pe_int pa_nil)))
      (pss_cons (ps_for PassesOwn.never rfl (pi_list (pe_call G2 hr (by rfl) T.g_all_with_sign T.F_all_with_sign.kp T.b_all_with_sign .nil pass0 (pa_cons (pv 4) (pa_cons (pe_cint rfl c1) pa_nil)))) (pg_name (i := 6) sc_scale.nd rfl (.inl rfl))
        (pss_cons (ps_set (i := 7) sc_scale.nd rfl (.inl rfl) (pe_op op_add (pv 3) (pe_call G3 hr1 (by rfl) T.g_rounded_quotient T.F_rounded_quotient.kp T.b_rounded_quotient .nil pass0 (pa_cons (pe_op op_mul (pv 6) (pv 1)) (pa_cons (pv 2) pa_nil)))))
        (pss_one (ps_expr (pe_bm PySem.F.plainAttrs_list PySem.F.slot_list_append PySem.F.type_list_append mt_append (pv 5) (pa_cons (pe_callB (call_max2 rfl) (by rfl) T.z_max boot_max (pa_cons pe_int (pa_cons (pe_callB (call_min2 rfl) (by rfl) T.z_min boot_min (pa_cons (pe_cint rfl c2) (pa_cons (pv 7) pa_nil))) pa_nil))) pa_nil))))))
      (pss_one (ps_ret (pv 5))))), ?_⟩
    obtain ⟨h0, h1, hm, hs, hz, bl, ll⟩ := scale_asked_iff hask
    refine ⟨_, rfl, _, rfl, _, rfl, _, _, _, rfl, _, rfl, ite2 (fun e => ?_) (fun e => ?_)⟩
    · have e := of_decide_eq_true e
      refine ⟨1, rfl, (by show 1 ≤ sizeLine; decide), fun p hp => q _ p ?_⟩
      rw [scale_no h0 e]
      exact upd_same
    · have e : scaleOk n s z := Decidable.not_not.mp fun z => e (decide_eq_true z)
      have ans := scale_yes (m := m) h0 e bl
      have ll5 : l.length ≤ 500 := by
        rw [if_pos e.1] at ll
        have := e.1
        omega
      -- answer = [0]
      refine ⟨(by show 1 ≤ sizeLine; decide), fun p1 n1 => ?_⟩
      have s1 : Same H (upd H p1 (.lst [.int 0])) := same_upd n1
      refine ⟨_, rfl, al, l, 4294967296, rfl, s1.seq hL, (by omega), fun H0 p0 s0 n0 e0 => ?_⟩
      have e1 : H0 p1 = some (.lst [.int 0]) := s0 _ _ upd_same
      have n01 : p0 ≠ p1 := fun z => by
        rw [z, upd_same] at n0
        cases n0
      refine ⟨p0, rfl, ⟨_, SqL.of e0⟩, ?_⟩
      refine for_list (xs := (l.map fun b => ws b 4294967296).map V.int) (fun k σ H' => ∃ v6 v7, σ = [some (.int n), some (.int m), some (.int s), some (.int z), some (.ref al), some (.ref p1), v6, v7] ∧
          H' p0 = some (.lst ((l.map fun b => ws b 4294967296).map V.int)) ∧ H' p1 = some (.lst ((0 :: (l.take k).map (scaleI m s z)).map V.int)))
        ⟨none, none, rfl, e0, e1⟩ (fun k σ H' _ z => by obtain ⟨_, _, _, z, _⟩ := z; exact SqL.of z) ?_ ?_
      · rintro k y σ H' hk ⟨v6, v7, rfl, e5, e6⟩
        obtain ⟨u, hu, rfl⟩ := map_at hk
        rw [List.getElem?_map] at hu
        obtain ⟨b, hb, rfl⟩ := Option.map_eq_some_iff.mp hu
        have wb := bl b (List.mem_of_getElem? hb)
        have w5 := ws32_within wb
        have kl : k < l.length := (List.getElem?_eq_some_iff.mp hb).1
        refine ⟨_, rfl, _, rfl, _, rfl, _, _, rfl, rfl, .inl ⟨by omega, by omega⟩, _, rfl, _, _, rfl, e.2.1, e.2.2.1, ?_⟩
        refine ⟨_, _, rfl, rfl, ?_⟩
        refine ⟨_, rfl, .inl ⟨rfl, _, SqL.of e6⟩, _, rfl, _, _, rfl, _, _, rfl, p1, _, _, rfl, rfl, e6, ?_, ?_⟩
        · rw [List.length_map, List.length_cons, List.length_map, List.length_take]
          exact Nat.lt_of_le_of_lt (show min k l.length + 1 ≤ 1024 by omega) (by decide)
        · refine ⟨_, _, rfl, ?_, ?_⟩
          · rw [upd_ne n01]
            exact e5
          · rw [upd_same, List.take_add_one, hb, List.map_append, ← List.cons_append, List.map_append, held_byte]
            rfl
      · rintro σ H' ⟨v6, v7, rfl, e5, e6⟩
        rw [List.length_map, List.length_map, List.take_length, ← ans] at e6
        exact ⟨_, rfl, q H' p1 e6⟩

end
/-! ### the end -/
theorem all_mk {P : Program} {w : World} {K : PySem.W.Frag} {h : Heap} {mg : Str → Option Value} {fa f0 f1 f2 f3 f4 : Addr} (X : K.In h) (G : h.Ns mainGlobals mg) (hfa : mg "scale" = some (.ref fa))
    {od0 an0 od1 an1 od2 an2 od3 an3 od4 an4 : Option Addr} {sl0 sl1 sl2 sl3 sl4 : Array (Option Value)} {oc0 kV0 dc0 pm0 cd0 ct0 oc1 kV1 dc1 pm1 cd1 ct1 oc2 kV2 dc2 pm2 cd2 ct2 oc3 kV3 dc3 pm3 cd3 ct3 oc4 kV4 dc4 pm4 cd4 ct4 : Value}
    {t0 t1 t2 t3 : _}
    (a0 : PySem.W.nsIn K mainGlobals "is_scale_refused" = some (some (.ref f0))) (l0 : K.lookup f0 = some ⟨oc0, od0, .func (PySem.W.fnOf "is_scale_refused" "is_scale_refused" (defArgs s_is_scale_refused) (defBody s_is_scale_refused) (defScope s_is_scale_refused) .none kV0 dc0 pm0 an0 cd0 ct0), sl0⟩) (c0 : PySem.W.codeIn K cd0 "is_scale_refused" = true) (k0 : PySem.W.keepIn K (.ref f0) = true)
    (a1 : PySem.W.nsIn K mainGlobals "with_sign" = some (some (.ref f1))) (l1 : K.lookup f1 = some ⟨oc1, od1, .func (PySem.W.fnOf "with_sign" "with_sign" (defArgs s_with_sign) (defBody s_with_sign) (defScope s_with_sign) .none kV1 dc1 pm1 an1 cd1 ct1), sl1⟩) (c1 : PySem.W.codeIn K cd1 "with_sign" = true) (k1 : PySem.W.keepIn K (.ref f1) = true)
    (a2 : PySem.W.nsIn K mainGlobals "all_with_sign" = some (some (.ref f2))) (l2 : K.lookup f2 = some ⟨oc2, od2, .func (PySem.W.fnOf "all_with_sign" "all_with_sign" (defArgs s_all_with_sign) (defBody s_all_with_sign) (defScope s_all_with_sign) .none kV2 dc2 pm2 an2 cd2 ct2), sl2⟩) (c2 : PySem.W.codeIn K cd2 "all_with_sign" = true) (k2 : PySem.W.keepIn K (.ref f2) = true)
    (a3 : PySem.W.nsIn K mainGlobals "rounded_quotient" = some (some (.ref f3))) (l3 : K.lookup f3 = some ⟨oc3, od3, .func (PySem.W.fnOf "rounded_quotient" "rounded_quotient" (defArgs s_rounded_quotient) (defBody s_rounded_quotient) (defScope s_rounded_quotient) .none kV3 dc3 pm3 an3 cd3 ct3), sl3⟩) (c3 : PySem.W.codeIn K cd3 "rounded_quotient" = true) (k3 : PySem.W.keepIn K (.ref f3) = true)
    (a4 : PySem.W.nsIn K mainGlobals "scale" = some (some (.ref f4))) (l4 : K.lookup f4 = some ⟨oc4, od4, .func (PySem.W.fnOf "scale" "scale" (defArgs s_scale) (defBody s_scale) (defScope s_scale) .none kV4 dc4 pm4 an4 cd4 ct4), sl4⟩) (c4 : PySem.W.codeIn K cd4 "scale" = true) (k4 : PySem.W.keepIn K (.ref f4) = true)
    (g0 : PySem.W.nsIn K mainGlobals "MOST_NUMBERS" = some (some (.int 65536 t0)))
    (g1 : PySem.W.nsIn K mainGlobals "MOST_SHIFT" = some (some (.int 62 t1)))
    (g2 : PySem.W.nsIn K mainGlobals "MOST_BYTE" = some (some (.int 255 t2)))
    (g3 : PySem.W.nsIn K mainGlobals "SPAN_32" = some (some (.int 4294967296 t3)))
    (z0 : PySem.W.nsIn K mainGlobals "max" = some none)
    (z1 : PySem.W.nsIn K mainGlobals "min" = some none)
    : ∃ fd : FuncData, (∀ (s : Shared) (us : List Value), us.length = (["n", "m", "s", "z", "numbers"] : List Str).length → BindsTo s fd ⟨us, []⟩ ((["n", "m", "s", "z", "numbers"] : List Str).zip us)) ∧ ∀ base : Heap, K.In base → base.Ns mainGlobals mg → FnOk P w K mg base CX0 3 fa fd ["n", "m", "s", "z", "numbers"] (spScale K) := by
  have e := hfa.symm.trans (PySem.W.mg_of X G a4)
  cases e
  have F0 := fun_mk (st := s_is_scale_refused) l0 c0 k0
  have b0 := F0.binds (ps := ["n", "s", "z"]) fun _ _ _ _ _ _ us hl => match us, hl with | [_, _, _], _ => rfl
  have F1 := fun_mk (st := s_with_sign) l1 c1 k1
  have b1 := F1.binds (ps := ["bits", "span"]) fun _ _ _ _ _ _ us hl => match us, hl with | [_, _], _ => rfl
  have F2 := fun_mk (st := s_all_with_sign) l2 c2 k2
  have b2 := F2.binds (ps := ["numbers", "span"]) fun _ _ _ _ _ _ us hl => match us, hl with | [_, _], _ => rfl
  have F3 := fun_mk (st := s_rounded_quotient) l3 c3 k3
  have b3 := F3.binds (ps := ["number", "s"]) fun _ _ _ _ _ _ us hl => match us, hl with | [_, _], _ => rfl
  have F4 := fun_mk (st := s_scale) l4 c4 k4
  have b4 := F4.binds (ps := ["n", "m", "s", "z", "numbers"]) fun _ _ _ _ _ _ us hl => match us, hl with | [_, _, _, _, _], _ => rfl
  have T : Txt K mg ⟨_, _, _, _, _, _, _, _, _, _⟩ := ⟨F0, b0, PySem.W.mg_of X G a0, F1, b1, PySem.W.mg_of X G a1, F2, b2, PySem.W.mg_of X G a2, F3, b3, PySem.W.mg_of X G a3, F4, b4, PySem.W.mg_of X G a4, ⟨_, PySem.W.mg_of X G g0⟩, ⟨_, PySem.W.mg_of X G g1⟩, ⟨_, PySem.W.mg_of X G g2⟩, ⟨_, PySem.W.mg_of X G g3⟩, PySem.W.mg_none_of X G z0, PySem.W.mg_none_of X G z1⟩
  exact ⟨_, fun s us hu => match us, hu with | [_, _, _, _, _], _ => .of_eq rfl, fun base _ _ => ok_scale T⟩
end Sp
open PySem PySem.W PyProof.Rows
set_option maxRecDepth 100000 in
set_option maxHeartbeats 8000000 in
theorem PySem.Challenge.cw_smallproducts_s03_scale_holds : PySem.Challenge.rw_smallproducts_s03_scale.Holds := by
  w_on; k_headS; (case hw => exact ⟨[.int 0, .int 0, .int 0, .int 0, .list []], by decide +kernel, by decide +kernel⟩)
  k_fillS
  refine L2.walk_specK (r := PySem.Challenge.rw_smallproducts_s03_scale) (k := 3) (CX := L2.CX0) (ps := ["n", "m", "s", "z", "numbers"]) (sp := Sp.spScale) (by decide +kernel) rfl rfl ⟨rfl, by decide, by decide⟩ (fun w h Y => PySem.W.kIn_of Y) ?F ?S (fun _ _ _ _ z => z)
  case F =>
    intro w mg fa h Y KX G hmg
    refine' Sp.all_mk KX G hmg ?my_a0 ?my_l0 ?my_c0 ?my_k0 ?my_a1 ?my_l1 ?my_c1 ?my_k1 ?my_a2 ?my_l2 ?my_c2 ?my_k2 ?my_a3 ?my_l3 ?my_c3 ?my_k3 ?my_a4 ?my_l4 ?my_c4 ?my_k4 ?my_g0 ?my_g1 ?my_g2 ?my_g3 ?my_z0 ?my_z1
    (case my_a0 => k_is)
    (case my_l0 => k_is)
    (case my_c0 => k_is)
    (case my_k0 => k_is)
    (case my_a1 => k_is)
    (case my_l1 => k_is)
    (case my_c1 => k_is)
    (case my_k1 => k_is)
    (case my_a2 => k_is)
    (case my_l2 => k_is)
    (case my_c2 => k_is)
    (case my_k2 => k_is)
    (case my_a3 => k_is)
    (case my_l3 => k_is)
    (case my_c3 => k_is)
    (case my_k3 => k_is)
    (case my_a4 => k_is)
    (case my_l4 => k_is)
    (case my_c4 => k_is)
    (case my_k4 => k_is)
    (case my_g0 => k_is)
    (case my_g1 => k_is)
    (case my_g2 => k_is)
    (case my_g3 => k_is)
    (case my_z0 => k_is)
    (case my_z1 => k_is)
  case S =>
    intro K H xs a hO hwi hask hx
    obtain ⟨n, m, s, z, l, u⟩ := a
    cases hx with
    | cons h1 hx =>
    cases hx with
    | cons h2 hx =>
    cases hx with
    | cons h3 hx =>
    cases hx with
    | cons h4 hx =>
    cases hx with
    | cons h5 hx =>
    cases hx
    cases h1
    cases h2
    cases h3
    cases h4
    cases h5 with
    | lst s5 d5 =>
    have e5 := L2.ints_dw l _ d5
    subst e5
    exact ⟨_, _, _, _, _, l, rfl, s5, hask, fun H' p hp => .lst (L2.SqL.of hp) (L2.dw_ints _)⟩
#print axioms PySem.Challenge.cw_smallproducts_s03_scale_holds
