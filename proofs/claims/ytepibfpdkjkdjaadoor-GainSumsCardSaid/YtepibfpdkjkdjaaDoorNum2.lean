/- Sums, differences, products and quotients by digits: plain laws. -/
import Derived.Test.YtepibfpdkjkdjaaDoorNum
namespace Go.Proofs.YtepibfpdkjkdjaaDoor

theorem vl_set (b : Nat) (l : List Nat) (p v : Nat) (hp : p < l.length) : vl b (l.set p v) + b ^ p * l[p] = vl b l + b ^ p * v := by
  induction l generalizing p with
  | nil => simp at hp
  | cons x l ih =>
    cases p with
    | zero => simp [vl]; omega
    | succ p =>
      have hp' : p < l.length := by simpa using hp
      have h := ih p hp'
      simp only [List.set_cons_succ, vl, List.getElem_cons_succ, Nat.pow_succ]
      have e : ∀ t, b ^ p * b * t = b * (b ^ p * t) := by intro t; rw [Nat.mul_comm (b ^ p) b, Nat.mul_assoc]
      rw [e, e]
      generalize b ^ p * l[p] = s at *
      generalize b ^ p * v = t at *
      have := congrArg (b * ·) h
      simp only [Nat.mul_add] at this
      omega

/-- One place more of a number. -/
theorem mod_succ (x b i : Nat) : x % b ^ (i + 1) = x % b ^ i + b ^ i * (x / b ^ i % b) := Nat.mod_pow_succ

/-- A place of a sum. -/
theorem add_step (b x y i v c s : Nat) (hs : s = c + x / b ^ i % b + y / b ^ i % b) (h : v + b ^ i * c = x % b ^ i + y % b ^ i) :
    v + b ^ i * (s % b) + b ^ (i + 1) * (s / b) = x % b ^ (i + 1) + y % b ^ (i + 1) := by
  rw [mod_succ, mod_succ, Nat.pow_succ]
  have e : b ^ i * (s % b) + b ^ i * b * (s / b) = b ^ i * s := by rw [Nat.mul_assoc, ← Nat.mul_add, Nat.mod_add_div]
  rw [Nat.add_assoc, e, hs, Nat.mul_add, Nat.mul_add]
  generalize b ^ i * c = p at *
  omega

/-- A place of a product with one limb. -/
theorem mul_step (b y j v r u P c s w m : Nat) (hs : s = c + m * (y / b ^ j % b) + r) (h : v + P * b ^ j * c = u + P * m * (y % b ^ j)) (hv : w + P * b ^ j * r = v + P * b ^ j * (s % b)) :
    w + P * b ^ (j + 1) * (s / b) = u + P * m * (y % b ^ (j + 1)) := by
  rw [mod_succ, Nat.pow_succ, Nat.mul_add]
  generalize y / b ^ j % b = d at *
  generalize y % b ^ j = t at *
  generalize b ^ j = q at *
  have e1 : P * (q * b) * (s / b) = P * q * (b * (s / b)) := by rw [← Nat.mul_assoc, Nat.mul_assoc (P * q)]
  have e2 : P * m * (q * d) = P * q * (m * d) := by rw [Nat.mul_assoc, Nat.mul_assoc, Nat.mul_left_comm m]
  have e3 : P * q * (s % b) + P * q * (b * (s / b)) = P * q * s := by rw [← Nat.mul_add, Nat.mod_add_div]
  rw [e1, e2]
  have e4 : P * q * s = P * q * c + P * q * (m * d) + P * q * r := by rw [hs, Nat.mul_add, Nat.mul_add]
  generalize P * q * (s % b) = a1 at *
  generalize P * q * (b * (s / b)) = a2 at *
  generalize P * q * s = a3 at *
  generalize P * q * c = a4 at *
  generalize P * q * (m * d) = a5 at *
  generalize P * q * r = a6 at *
  generalize P * m * t = a7 at *
  omega

/-- A place of a difference. -/
theorem sub_step (b x y i v c dx dy : Nat) (hb : 0 < b) (hdx : dx = x / b ^ i % b) (hdy : dy = y / b ^ i % b) (hc : c ≤ 1) (h : v + y % b ^ i = x % b ^ i + b ^ i * c) :
    v + b ^ i * ((b + dx - dy - c) % b) + y % b ^ (i + 1) = x % b ^ (i + 1) + b ^ (i + 1) * (if dx < dy + c then 1 else 0) := by
  have hx : dx < b := by rw [hdx]; exact Nat.mod_lt _ hb
  have hy : dy < b := by rw [hdy]; exact Nat.mod_lt _ hb
  rw [mod_succ, mod_succ, ← hdx, ← hdy, Nat.pow_succ]
  generalize b ^ i = q at *
  generalize y % q = yt at *
  generalize x % q = xt at *
  split
  · rename_i hlt
    have e : (b + dx - dy - c) % b = b + dx - dy - c := Nat.mod_eq_of_lt (by omega)
    rw [e]
    have e2 : q * (b + dx - dy - c) + q * dy + q * c = q * b + q * dx := by
      rw [← Nat.mul_add, ← Nat.mul_add, ← Nat.mul_add]; congr 1; omega
    rw [Nat.mul_one]
    generalize q * (b + dx - dy - c) = a1 at *
    generalize q * dy = a2 at *
    generalize q * c = a3 at *
    generalize q * dx = a4 at *
    generalize q * b = a5 at *
    omega
  · rename_i hlt
    have e : (b + dx - dy - c) % b = dx - dy - c := by
      rw [show b + dx - dy - c = b + (dx - dy - c) by omega, Nat.add_mod_left]; exact Nat.mod_eq_of_lt (by omega)
    rw [e]
    have e2 : q * (dx - dy - c) + q * dy + q * c = q * dx := by
      rw [← Nat.mul_add, ← Nat.mul_add]; congr 1; omega
    rw [Nat.mul_zero]
    generalize q * (dx - dy - c) = a1 at *
    generalize q * dy = a2 at *
    generalize q * c = a3 at *
    generalize q * dx = a4 at *
    omega

/-- The quotient by a small number, from the highest place on. -/
theorem div_step (b x i d : Nat) : x / b ^ i / d = x / b ^ (i + 1) / d * b + ((x / b ^ (i + 1) % d) * b + x / b ^ i % b) / d ∧
    x / b ^ i % d = ((x / b ^ (i + 1) % d) * b + x / b ^ i % b) % d := by
  have e : x / b ^ i = b * (x / b ^ (i + 1)) + x / b ^ i % b := by
    rw [Nat.pow_succ, ← Nat.div_div_eq_div_mul]; exact (Nat.div_add_mod _ b).symm
  generalize x / b ^ (i + 1) = h at *
  generalize x / b ^ i % b = l at *
  rw [e]
  have e2 : b * h + l = d * (h / d * b) + (h % d * b + l) := by
    have := congrArg (b * ·) (Nat.div_add_mod h d)
    simp only [Nat.mul_add] at this
    rw [Nat.mul_comm (h % d) b, ← Nat.add_assoc, ← this]
    congr 2
    rw [Nat.mul_left_comm, Nat.mul_comm (h / d) b]
  rcases Nat.eq_zero_or_pos d with hd | hd
  · subst hd; simp [Nat.mul_comm]
  · constructor
    · conv => lhs; rw [e2]
      rw [Nat.add_comm, Nat.add_mul_div_left _ _ hd, Nat.add_comm]
    · conv => lhs; rw [e2]
      rw [Nat.mul_add_mod]
end Go.Proofs.YtepibfpdkjkdjaaDoor
