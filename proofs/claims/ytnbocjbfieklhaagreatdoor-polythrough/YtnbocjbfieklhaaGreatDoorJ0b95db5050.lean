/-
  Texts of mine, joined: what lies beneath the statement.
-/
import Derived.Test.YtnbocjbfieklhaaGreatDoorJa2217d66be
namespace Go.Proofs.YtnbocjbfieklhaaGreatDoor
set_option linter.unusedVariables false
def slopeN (x y : Nat → Rat) : Nat → Nat → Rat
 | 0,i => y i
 | a + 1,i => (slopeN x y a i - slopeN x y a (i - 1)) / (x i - x (i - (a + 1)))
def prodX (x : Nat → Rat) (X : Rat) (lo : Nat) : Nat → Rat
 | 0 => 1
 | k + 1 => prodX x X lo k * (X - x (lo + k))
theorem prodX_first (x : Nat → Rat) (X : Rat) (lo : Nat) : ∀ k,prodX x X lo (k + 1) = (X - x lo) * prodX x X (lo + 1) k
 | 0 => by show 1 * (X - x lo) = (X - x lo) * 1; grind
 | k + 1 => by
  show prodX x X lo (k + 1) * (X - x (lo + (k + 1))) = (X - x lo) * (prodX x X (lo + 1) k * (X - x (lo + 1 + k)))
  rw [prodX_first x X lo k,show lo + 1 + k = lo + (k + 1) by omega]; grind
theorem prodX_zero (x : Nat → Rat) (lo j : Nat) (h : lo ≤ j) : ∀ k,j < lo + k → prodX x (x j) lo k = 0
 | 0,hk => by omega
 | k + 1,hk => by
  show prodX x (x j) lo k * (x j - x (lo + k)) = 0
  by_cases e : j = lo + k
  ·rw [← e]; grind
  ·rw [prodX_zero x lo j h k (by omega)]; grind
def newtP (x y : Nat → Rat) (X : Rat) : Nat → Nat → Rat
 | 0,i => y i
 | a + 1,i => newtP x y X a (i - 1) + slopeN x y (a + 1) i * prodX x X (i - (a + 1)) (a + 1)
theorem newtP_back (x y : Nat → Rat) (X : Rat) : ∀ a i,a + 1 ≤ i → (∀ b,b ≤ i → ∀ c,c < b → x b ≠ x c) → newtP x y X (a + 1) i = newtP x y X a i + slopeN x y (a + 1) i * prodX x X (i - a) (a + 1)
 | 0,i,hi,hx => by
  have h1 := hx i (by omega) (i - 1) (by omega)
  show y (i - 1) + (y i - y (i - 1)) / (x i - x (i - 1)) * (1 * (X - x (i - 1 + 0))) = y i + (y i - y (i - 1)) / (x i - x (i - 1)) * (1 * (X - x (i - 0 + 0)))
  rw [show i - 1 + 0 = i - 1 by omega,show i - 0 + 0 = i by omega]
  have h2 : x i - x (i - 1) ≠ 0 := by grind
  generalize x i = xi at *
  generalize x (i - 1) = xp at *
  generalize y i = yi at *
  generalize y (i - 1) = yp at *
  have h3 : (yi - yp) / (xi - xp) * (xi - xp) = yi - yp := Rat.div_mul_cancel h2
  grind
 | a + 1,i,hi,hx => by
  have ih := newtP_back x y X a (i - 1) (by omega) (fun b hb c hc => hx b (by omega) c hc)
  have h1 := hx i (by omega) (i - (a + 1 + 1)) (by omega)
  have h2 : x i - x (i - (a + 1 + 1)) ≠ 0 := by grind
  have hD : slopeN x y (a + 1 + 1) i * (x i - x (i - (a + 1 + 1))) = slopeN x y (a + 1) i - slopeN x y (a + 1) (i - 1) := by
   show (slopeN x y (a + 1) i - slopeN x y (a + 1) (i - 1)) / (x i - x (i - (a + 1 + 1))) * _ = _
   exact Rat.div_mul_cancel h2
  have e1 : newtP x y X (a + 1) i = newtP x y X a (i - 1) + slopeN x y (a + 1) i * prodX x X (i - (a + 1)) (a + 1) := rfl
  show newtP x y X (a + 1) (i - 1) + slopeN x y (a + 1 + 1) i * prodX x X (i - (a + 1 + 1)) (a + 1 + 1) = newtP x y X (a + 1) i + slopeN x y (a + 1 + 1) i * (prodX x X (i - (a + 1)) (a + 1) * (X - x (i - (a + 1) + (a + 1))))
  rw [prodX_first x X (i - (a + 1 + 1)) (a + 1),show i - (a + 1 + 1) + 1 = i - (a + 1) by omega,show i - (a + 1) + (a + 1) = i by omega,e1,ih,show i - 1 - a = i - (a + 1) by omega]
  generalize prodX x X (i - (a + 1)) (a + 1) = P at *
  generalize slopeN x y (a + 1 + 1) i = D at *
  generalize slopeN x y (a + 1) i = D1 at *
  generalize slopeN x y (a + 1) (i - 1) = D0 at *
  generalize newtP x y X a (i - 1) = N0 at *
  generalize x (i - (a + 1 + 1)) = xl at *
  generalize x i = xi at *
  grind
theorem newtP_hit (x y : Nat → Rat) (j : Nat) : ∀ a i,a ≤ i → i - a ≤ j → j ≤ i → (∀ b,b ≤ i → ∀ c,c < b → x b ≠ x c) → newtP x y (x j) a i = y j
 | 0,i,_,h1,h2,_ => by rw [show j = i by omega]; rfl
 | a + 1,i,ha,h1,h2,hx => by
  by_cases e : j = i
  ·rw [newtP_back x y (x j) a i ha hx,newtP_hit x y j a i (by omega) (by omega) h2 hx,prodX_zero x (i - a) j (by omega) (a + 1) (by omega)]
   grind
  ·show newtP x y (x j) a (i - 1) + slopeN x y (a + 1) i * prodX x (x j) (i - (a + 1)) (a + 1) = y j
   rw [newtP_hit x y j a (i - 1) (by omega) (by omega) (by omega) (fun b hb c hc => hx b (by omega) c hc),prodX_zero x (i - (a + 1)) j (by omega) (a + 1) (by omega)]
   grind
def hornN (x : Nat → Rat) (s : Nat → Rat) (X : Rat) (n : Nat) : Nat → Rat
 | 0 => 0
 | t + 1 => hornN x s X n t * (X - x (n - (t + 1))) + s (n - (t + 1))
theorem newtP_left (x y : Nat → Rat) (X : Rat) : ∀ k,newtP x y X k k = sumq (fun i => slopeN x y i i * prodX x X 0 i) (k + 1)
 | 0 => by show y 0 = 0 + y 0 * 1; grind
 | k + 1 => by
  show newtP x y X k (k + 1 - 1) + slopeN x y (k + 1) (k + 1) * prodX x X (k + 1 - (k + 1)) (k + 1) = sumq (fun i => slopeN x y i i * prodX x X 0 i) (k + 1) + slopeN x y (k + 1) (k + 1) * prodX x X 0 (k + 1)
  rw [show k + 1 - 1 = k by omega,show k + 1 - (k + 1) = 0 by omega,newtP_left x y X k]
theorem hornN_sum (x s : Nat → Rat) (X : Rat) (n : Nat) : ∀ t,t ≤ n → sumq (fun i => s i * prodX x X 0 i) n = sumq (fun i => s i * prodX x X 0 i) (n - t) + prodX x X 0 (n - t) * hornN x s X n t
 | 0,_ => by show _ = _ + _ * 0; rw [Nat.sub_zero]; grind
 | t + 1,h => by
  rw [hornN_sum x s X n t (by omega),show n - t = (n - (t + 1)) + 1 by omega]
  show sumq (fun i => s i * prodX x X 0 i) (n - (t + 1)) + s (n - (t + 1)) * prodX x X 0 (n - (t + 1)) + prodX x X 0 (n - (t + 1)) * (X - x (0 + (n - (t + 1)))) * hornN x s X n t = sumq (fun i => s i * prodX x X 0 i) (n - (t + 1)) + prodX x X 0 (n - (t + 1)) * (hornN x s X n t * (X - x (n - (t + 1))) + s (n - (t + 1)))
  rw [Nat.zero_add]
  grind
theorem newton_hit (x y : Nat → Rat) (n j : Nat) (hj : j < n) (hx : ∀ b,b < n → ∀ c,c < b → x b ≠ x c) : hornN x (fun i => slopeN x y i i) (x j) n n = y j := by
 have h := hornN_sum x (fun i => slopeN x y i i) (x j) n n (Nat.le_refl _)
 rw [Nat.sub_self] at h
 have h2 := newtP_left x y (x j) (n - 1)
 rw [show n - 1 + 1 = n by omega] at h2
 have h3 := newtP_hit x y j (n - 1) (n - 1) (Nat.le_refl _) (by omega) (by omega) (fun b hb c hc => hx b (by omega) c hc)
 rw [h2] at h3
 rw [← h3,h]
 show _ = (0 : Rat) + 1 * _
 grind
end Go.Proofs.YtnbocjbfieklhaaGreatDoor
